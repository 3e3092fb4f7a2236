/- Dickson's polynomials of the model: spec.kdDickson, by a contract. -/
import Derived.Test.YtapglncgicfjnabGreatNE
namespace Go.Proofs.YtapglncgicfjnabGreat
open Go.RowKit
theorem dkt_step {m : Nat} {a : Int} (n x : Nat) : addF m (mulF m (x : Int) (dkt m a (n + 1) x)) (mulF m (subF m 0 a) (dkt m a n x)) = dkt m a (n + 2) x := rfl
set_option maxHeartbeats 4000000 in
/-- spec.kdDickson. -/
theorem kdDickson_any (m n : Nat) (a : Int) (w : World) (h : isSz (m : Int) = true) (ha : El (m : Int) a) (hn : n ≤ 1000) :
    Calls Tryz.prog 111 #[.int .i64 m, .int .i64 n, .int .i64 a] w fun e w' => ∃ v, e = .returned v ∧ RowT w' w.heap.size v m (dkt m a n) ∧ Below w.heap.size w w' := by
  have hq := isSz_le (m : Int) h
  have hc : El (m : Int) (addF m 1 1) := (El.one h).add h (El.one h)
  have hs : El (m : Int) (subF m 0 a) := El.neg h ha
  have HP := Lib.hid (fun w => fdPlus_any (m : Int) 1 1 w h (El.one h).1 (El.one h).2 (El.one h).1 (El.one h).2)
  have HL := Lib.hid (fun w => fdLess_any (m : Int) 0 a w h (El.zero h).1 (El.zero h).2 ha.1 ha.2)
  have HX := Lib.hid (fun v w (hv : Sl w v (fl (unt 1) 2)) => plX_T m v w h hv)
  have HC1 := Lib.hid (fun g cap B w hr hg => plCon_T m g cap B (addF m 1 1) w h hc hr hg)
  have HC2 := Lib.hid (fun g cap B w hr hg => plCon_T m g cap B (subF m 0 a) w h hs hr hg)
  have HT := Lib.hid (fun v1 v2 t u w h1 h2 => plTimesT m v1 v2 t u w h h1 h2)
  have HA := Lib.hid (fun v1 v2 t u w h1 h2 => plPlusT m v1 v2 t u w h h1 h2)
  have HD0 : Hid (∀ x, x < m → (fun _ : Nat => addF m 1 1) x = dkt m a 0 x) := Lib.hid fun _ _ => rfl
  have HD1 : Hid (∀ x, x < m → (fun x : Nat => (x : Int)) x = dkt m a 1 x) := Lib.hid fun _ _ => rfl
  have HDS : Hid (∀ k x : Nat, addF m (mulF m (x : Int) (dkt m a (k + 1) x)) (mulF m (subF m 0 a) (dkt m a k x)) = dkt m a (k + 2) x) := Lib.hid fun k x => dkt_step k x
  clear h ha hc hs
  generalize addF m 1 1 = c at *
  generalize subF m 0 a = s at *
  go_enter Tryz.func111, Tryz.ntmps111
  go_wp2_with fail
  refine (HP.out _).mono ?_
  rintro e w1 ⟨rfl, hb1⟩
  have hz_hb1 := hb1.size; (try simp at hz_hb1)
  have HB1 := Lib.hid hb1; clear hb1
  go_wp2_with fail
  refine (HC1.out _ _ _ _ (Row.lit0one _ _) (by simp)).mono ?_
  rintro e w2 ⟨v2, rfl, hr2, hb2⟩
  have hz_hb2 := hb2.size; (try simp at hz_hb2)
  have HB2 : Hid (Below w.heap.size w w2) := Lib.hid (by have hb1 := HB1.out; (repeat' (first | (with_reducible assumption) | (with_reducible exact Below.refl _ _) | (with_reducible refine below_drewN ?_ _) | (with_reducible refine Below.drew ?_) | (with_reducible refine Below.alloc ?_ ?_ _) | (with_reducible refine Below.setCell ?_ ?_ _) | (with_reducible refine Below.trans ?_ (Below.mono (by assumption) ?_)) | (with_reducible exact Nat.le_refl _) | (with_reducible assumption) | omega | (simp; omega) | (simp; done))))
  have HR2 := Lib.hid hr2; clear hr2 hb2 HB1
  go_wp2_with fail
  refine (HX.out _ _ (Row.lit01 _).sl).mono ?_
  rintro e w3 ⟨v3, rfl, hr3, hb3⟩
  have hz_hb3 := hb3.size; (try simp at hz_hb3)
  have HB3 : Hid (Below w.heap.size w w3) := Lib.hid (by have hb2 := HB2.out; (repeat' (first | (with_reducible assumption) | (with_reducible exact Below.refl _ _) | (with_reducible refine below_drewN ?_ _) | (with_reducible refine Below.drew ?_) | (with_reducible refine Below.alloc ?_ ?_ _) | (with_reducible refine Below.setCell ?_ ?_ _) | (with_reducible refine Below.trans ?_ (Below.mono (by assumption) ?_)) | (with_reducible exact Nat.le_refl _) | (with_reducible assumption) | omega | (simp; omega) | (simp; done))))
  have HR2b := Lib.hid (HR2.out.below (w' := w3) (by (repeat' (first | (with_reducible assumption) | (with_reducible exact Below.refl _ _) | (with_reducible refine below_drewN ?_ _) | (with_reducible refine Below.drew ?_) | (with_reducible refine Below.alloc ?_ ?_ _) | (with_reducible refine Below.setCell ?_ ?_ _) | (with_reducible refine Below.trans ?_ (Below.mono (by assumption) ?_)) | (with_reducible exact Nat.le_refl _) | (with_reducible assumption) | omega | (simp; omega) | (simp; done)))))
  have HR3 := Lib.hid hr3; clear hr3 hb3 HB2 HR2
  by_cases h0 : n = 0
  · subst h0
    go_wp2
    go_ret
    exact ⟨_, rfl, (HR2b.out.like HD0.out).mono (by (try simp); omega), HB3.out⟩
  · have hne : ((n : Int) == 0) = false := by simpa using h0
    have hne' : ¬ (n : Int) = 0 := by omega
    go_wp2_with fail
    refine (HL.out _).mono ?_
    rintro e w4 ⟨rfl, hb4⟩
    have hz_hb4 := hb4.size; (try simp at hz_hb4)
    have HB4 : Hid (Below w.heap.size w w4) := Lib.hid (by have hb3 := HB3.out; (repeat' (first | (with_reducible assumption) | (with_reducible exact Below.refl _ _) | (with_reducible refine below_drewN ?_ _) | (with_reducible refine Below.drew ?_) | (with_reducible refine Below.alloc ?_ ?_ _) | (with_reducible refine Below.setCell ?_ ?_ _) | (with_reducible refine Below.trans ?_ (Below.mono (by assumption) ?_)) | (with_reducible exact Nat.le_refl _) | (with_reducible assumption) | omega | (simp; omega) | (simp; done))))
    have HR2c : Hid (RowT w4 w.heap.size v2 m (dkt m a 0)) := Lib.hid (((HR2b.out.below hb4).like HD0.out).mono (by (try simp); omega))
    have HR3c : Hid (RowT w4 w.heap.size v3 m (dkt m a 1)) := Lib.hid (((HR3.out.below hb4).like HD1.out).mono (by (try simp); omega))
    clear hb4 HB3 HR2b HR3
    go_wp2_with fail
    go_loopw [7, 8, 10] (fun vb vn vk wr => ∃ k : Nat, k + 1 ≤ n ∧ vk = .int .i64 (k + 1 : Nat) ∧ RowT wr w.heap.size vb m (dkt m a k) ∧ RowT wr w.heap.size vn m (dkt m a (k + 1)) ∧ Below w.heap.size w wr) (fun _ _ vk _ => n - (intOf vk).toNat)
    case atStart => exact ⟨0, by omega, rfl, HR2c.out, HR3c.out, HB4.out⟩
    case round =>
      obtain ⟨k, hk, rfl, hrb, hrn, hbw⟩ := hrel
      have hzw := hbw.size
      have HRB := Lib.hid hrb
      have HRN := Lib.hid hrn
      have HBW := Lib.hid hbw
      clear hrb hrn hbw
      obtain ⟨k1, hk1⟩ : ∃ x, x = k + 1 := ⟨_, rfl⟩
      rw [← hk1] at HRN ⊢
      by_cases hlt : k1 < n
      · have HK1 := Lib.hid hk1
        have HDK := Lib.hid (HDS.out k)
        rw [← hk1] at HDK
        clear hk1
        go_wp2_with fail
        refine (HX.out _ _ (Row.lit01 _).sl).mono ?_
        rintro e w5 ⟨v5, rfl, hr5, hb5⟩
        have hz_hb5 := hb5.size; (try simp at hz_hb5)
        have HR5 := Lib.hid hr5
        have HB5 := Lib.hid (show Below wr.heap.size wr w5 by (repeat' (first | (with_reducible assumption) | (with_reducible exact Below.refl _ _) | (with_reducible refine below_drewN ?_ _) | (with_reducible refine Below.drew ?_) | (with_reducible refine Below.alloc ?_ ?_ _) | (with_reducible refine Below.setCell ?_ ?_ _) | (with_reducible refine Below.trans ?_ (Below.mono (by assumption) ?_)) | (with_reducible exact Nat.le_refl _) | (with_reducible assumption) | omega | (simp; omega) | (simp; done))))
        clear hr5 hb5
        go_wp2_with fail
        refine (HT.out _ _ _ _ _ HR5.out.isL (HRN.out.below HB5.out).isL).mono ?_
        rintro e w6 ⟨v6, rfl, hr6, hb6⟩
        have hz_hb6 := hb6.size; (try simp at hz_hb6)
        have HR6 := Lib.hid hr6
        have HB6 := Lib.hid (show Below wr.heap.size wr w6 by have hb5 := HB5.out; (repeat' (first | (with_reducible assumption) | (with_reducible exact Below.refl _ _) | (with_reducible refine below_drewN ?_ _) | (with_reducible refine Below.drew ?_) | (with_reducible refine Below.alloc ?_ ?_ _) | (with_reducible refine Below.setCell ?_ ?_ _) | (with_reducible refine Below.trans ?_ (Below.mono (by assumption) ?_)) | (with_reducible exact Nat.le_refl _) | (with_reducible assumption) | omega | (simp; omega) | (simp; done))))
        clear hr6 hb6
        go_wp2_with fail
        refine (HC2.out _ _ _ _ (Row.lit0one _ _) (by simp)).mono ?_
        rintro e w7 ⟨v7, rfl, hr7, hb7⟩
        have hz_hb7 := hb7.size; (try simp at hz_hb7)
        have HR7 := Lib.hid hr7
        have HR6b := Lib.hid (HR6.out.below (w' := w7) (by (repeat' (first | (with_reducible assumption) | (with_reducible exact Below.refl _ _) | (with_reducible refine below_drewN ?_ _) | (with_reducible refine Below.drew ?_) | (with_reducible refine Below.alloc ?_ ?_ _) | (with_reducible refine Below.setCell ?_ ?_ _) | (with_reducible refine Below.trans ?_ (Below.mono (by assumption) ?_)) | (with_reducible exact Nat.le_refl _) | (with_reducible assumption) | omega | (simp; omega) | (simp; done)))))
        have HB7 := Lib.hid (show Below wr.heap.size wr w7 by have hb6 := HB6.out; (repeat' (first | (with_reducible assumption) | (with_reducible exact Below.refl _ _) | (with_reducible refine below_drewN ?_ _) | (with_reducible refine Below.drew ?_) | (with_reducible refine Below.alloc ?_ ?_ _) | (with_reducible refine Below.setCell ?_ ?_ _) | (with_reducible refine Below.trans ?_ (Below.mono (by assumption) ?_)) | (with_reducible exact Nat.le_refl _) | (with_reducible assumption) | omega | (simp; omega) | (simp; done))))
        clear hr7 hb7
        go_wp2_with fail
        refine (HT.out _ _ _ _ _ HR7.out.isL (HRB.out.below HB7.out).isL).mono ?_
        rintro e w8 ⟨v8, rfl, hr8, hb8⟩
        have hz_hb8 := hb8.size; (try simp at hz_hb8)
        have HR8 := Lib.hid hr8
        have HR6c := Lib.hid (HR6b.out.below hb8)
        have HB8 := Lib.hid (show Below wr.heap.size wr w8 by have hb7 := HB7.out; (repeat' (first | (with_reducible assumption) | (with_reducible exact Below.refl _ _) | (with_reducible refine below_drewN ?_ _) | (with_reducible refine Below.drew ?_) | (with_reducible refine Below.alloc ?_ ?_ _) | (with_reducible refine Below.setCell ?_ ?_ _) | (with_reducible refine Below.trans ?_ (Below.mono (by assumption) ?_)) | (with_reducible exact Nat.le_refl _) | (with_reducible assumption) | omega | (simp; omega) | (simp; done))))
        clear hr8 hb8
        go_wp2_with fail
        refine (HA.out _ _ _ _ _ HR6c.out.isL HR8.out.isL).mono ?_
        rintro e w9 ⟨v9, rfl, hr9, hb9⟩
        have hz_hb9 := hb9.size; (try simp at hz_hb9)
        have HR9 := Lib.hid hr9
        have HB9 := Lib.hid (show Below wr.heap.size wr w9 by have hb8 := HB8.out; (repeat' (first | (with_reducible assumption) | (with_reducible exact Below.refl _ _) | (with_reducible refine below_drewN ?_ _) | (with_reducible refine Below.drew ?_) | (with_reducible refine Below.alloc ?_ ?_ _) | (with_reducible refine Below.setCell ?_ ?_ _) | (with_reducible refine Below.trans ?_ (Below.mono (by assumption) ?_)) | (with_reducible exact Nat.le_refl _) | (with_reducible assumption) | omega | (simp; omega) | (simp; done))))
        clear hr9 hb9
        go_wp2
        go_roundw
        case rel =>
          have hK := HK1.out
          refine ⟨k1, by omega, by first | rfl | go_num, ?_, ?_, HBW.out.trans (HB9.out.mono (by omega))⟩
          · exact (HRN.out.below HB9.out)
          · refine (HR9.out.mono (by (try simp); omega)).like fun x _ => ?_
            rw [hK]
            have := HDK.out x
            rw [hK] at this
            exact this
        case measure => simp [intOf]; omega
      · obtain rfl : n = k1 := by omega
        go_wp2
        go_ret
        exact ⟨_, rfl, HRN.out, HBW.out⟩
end Go.Proofs.YtapglncgicfjnabGreat
