/- FromRows, of both, by contracts; the walk of its law. -/
import Derived.Test.YtlamclhhocofiaaRS
import Derived.Test.YtlamclhhocofiaaRW
namespace Go.Proofs.Ytlamclhhocofiaa
open Go.RowKit
/-- What else there was is as it was. -/
def KP (w w' : World) (n : Nat) (X : Nat → Value) : Prop := ∀ g, g < w.heap.size → (∀ i, i < n → (X i).ownBlock ≠ some g) → w'.heap[g]? = w.heap[g]?
set_option maxHeartbeats 1000000 in
/-- laws.markIntSS: what it leaves as it was. -/
theorem markSS_keep (v : Value) (n : Nat) (F : Nat → List Int) (X : Nat → Value) (B : Nat) (k : Int) (w : World) (h : RS w B v n F X) (hB : B ≤ w.heap.size) (hn : n ≤ 1048576) (hl : ofs F n ≤ 1048576) (k0 : 0 ≤ k) (k1 : k ≤ 1000) :
    Calls Try.prog 28 #[v, .int .i64 k] w fun e w' => e = .returned (.int .i64 (k + (ofs F n : Nat))) ∧ RS w' B v n (mkF F k n) X ∧ Below B w w' ∧ KP w w' n X := by
  have HM := Lib.hid (fun i (hi : i < n) w' (hr : RS w' B v n (mkF F k i) X) => by
    have hr1 := hr.inner i hi
    rw [mkF_at] at hr1
    exact mark_big (X i) (F i) B (k + (ofs F i : Nat)) w' hr1 (by have := ofs_len F hi; omega) (by omega) (by have := ofs_len F hi; omega))
  have HW := Lib.hid (fun i (hi : i < n) (w1 w2 : World) (hr : RS w1 B v n (mkF F k i) X) (hr2 : Row w2 B (X i) (mrk (k + (ofs F i : Nat)) (F i).length)) (hg : w1.grownBy w2 (X i).ownBlock) => by
    have := hr.wrote hi hr2 hg
    rwa [mkF_succ] at this)
  have HL := Lib.hid (fun i (hi : i < n) w' (hr : RS w' B v n (mkF F k i) X) => (hr.inner i hi).lt)
  have HS : Hid (∀ i, ofs F (i + 1) = ofs F i + (F i).length) := Lib.hid fun _ => rfl
  have HO := Lib.hid (fun i (hi : i < n) => ofs_len F hi)
  by_cases h0 : n = 0
  · subst h0
    have HH : Hid (RS w B v 0 (mkF F k 0) X) := Lib.hid (by rw [mkF_zero]; exact h)
    obtain ⟨a1, c1, rfl⟩ := h.empty
    clear h hn hl
    go_enter Try.func28, Try.ntmps28
    go_wp2
    (refine wp_loop_rounds 1 ?_; repeat any_goals (rw [rounds_succ]; go_wp2))
    go_wp2
    go_ret
    exact ⟨ret_int (by simp [ofs]), HH.out, Below.refl _ _, fun _ _ _ => rfl⟩
  · obtain ⟨g, c, rfl, _, _, _⟩ := h.form (by omega)
    have HH : Hid (RS w B (.slice (some ⟨g, 0, none⟩) n c) n (mkF F k 0) X) := Lib.hid (by rw [mkF_zero]; exact h)
    have H00 : Hid (ofs F 0 = 0) := Lib.hid rfl
    clear h h0
    go_enter Try.func28, Try.ntmps28
    go_wp2_with fail
    go_loopw [1, 5] (fun vk vi wr => ∃ i : Nat, i ≤ n ∧ vi = .int .i64 i ∧ vk = .int .i64 (k + (ofs F i : Nat)) ∧ RS wr B (.slice (some ⟨g, 0, none⟩) n c) n (mkF F k i) X ∧ Below B w wr ∧ KP w wr n X) (fun _ vi _ => n - (intOf vi).toNat)
    case atStart => exact ⟨0, Nat.zero_le _, rfl, by rw [H00.out]; simp, HH.out, Below.refl _ _, fun _ _ _ => rfl⟩
    case round =>
      obtain ⟨i, hi, rfl, rfl, hr, hb, hkp⟩ := hrel
      by_cases hlt : i < n
      · obtain ⟨g', c', hv, _, hgl, hc⟩ := hr.form (by omega)
        cases hv
        have e1 := hc i hlt
        have HM' := Lib.hid (HM.out i hlt _ hr)
        have HW' := Lib.hid (fun w2 h2 h3 => HW.out i hlt _ w2 hr h2 h3)
        have HL' := Lib.hid (HL.out i hlt _ hr)
        have HS' := Lib.hid (HS.out i)
        have hol := HO.out i hlt
        have HK' : Hid (∀ w2, wr.grownBy w2 (X i).ownBlock → KP w w2 n X) := Lib.hid fun w2 hg2 g hg hne => (hg2.block g (by have := hb.size; omega) fun e => hne i hlt e.symm).trans (hkp g hg hne)
        have HB := Lib.hid hb; clear hb hc hr hkp
        generalize ofs F i = o at *
        generalize (F i).length = m at *
        generalize X i = x at *
        go_wp2_with fail
        refine HM'.out.mono ?_
        rintro e w2 ⟨rfl, hr2, hg2⟩
        have HR2 := Lib.hid (HW'.out _ hr2 hg2)
        have HB2 := Lib.hid (HB.out.grown hg2 (by have := HB.out.size; omega) (fun g e => (HL'.out g e).1))
        have HK2 := Lib.hid (HK'.out _ hg2)
        clear hr2 hg2
        go_wp2
        go_roundw
        case rel => exact ⟨i + 1, by omega, by go_num, by rw [HS'.out]; go_num, HR2.out, HB2.out, HK2.out⟩
        case measure => simp [intOf]; omega
      · obtain rfl : n = i := by omega
        have HB := Lib.hid hb; clear hb
        have HR := Lib.hid hr; clear hr
        have HK := Lib.hid hkp; clear hkp
        go_wp2
        go_ret
        exact ⟨rfl, HR.out, HB.out, HK.out⟩
theorem RS.lts {w : World} {B n : Nat} {v : Value} {F : Nat → List Int} {X : Nat → Value} (h : RS w B v n F X) : (∀ g, v.ownBlock = some g → B ≤ g ∧ g < w.heap.size) ∧ ∀ i, i < n → ∀ g, (X i).ownBlock = some g → B ≤ g ∧ g < w.heap.size :=
  ⟨h.lt, h.ltX⟩
theorem impl_FromRows_no (q : Int) (v : Value) (w : World) (h : isSz q = false) :
    Calls Try.prog 33 #[.int .i64 q, v] w fun e w' => e = .returned (.tuple #[.slice none 0 0, .bool false]) ∧ Below w.heap.size w w' := by
  have HS := Lib.hid (fun w => fieldOf_no q w h)
  clear h
  go_enter Try.func33, Try.ntmps33
  go_wp2_with fail
  refine (HS.out _).mono ?_
  rintro e w1 ⟨rfl, hb1⟩
  have hz_hb1 := hb1.size; (try simp at hz_hb1)
  have HB1 := Lib.hid hb1; clear hb1
  go_wp2
  go_ret2
  have hb1 := HB1.out
  exact ⟨rfl, by (repeat' (first | (with_reducible assumption) | (with_reducible exact Below.refl _ _) | (with_reducible refine below_drewN ?_ _) | (with_reducible refine Below.drew ?_) | (with_reducible refine Below.alloc ?_ ?_ _) | (with_reducible refine Below.setCell ?_ ?_ _) | (with_reducible refine Below.trans ?_ (Below.mono (by assumption) ?_)) | (with_reducible exact Nat.le_refl _) | (with_reducible assumption) | omega | (simp; omega) | (simp; done)))⟩
set_option maxRecDepth 100000 in
set_option maxHeartbeats 4000000 in
/-- impl.FromRows. -/
theorem impl_FromRows_any (m n B : Nat) (v : Value) (F : Nat → List Int) (X : Nat → Value) (w : World) (h : isSz (m : Int) = true) (hv : RS w B v n F X) (hn : n ≤ 1048576) (hl : ∀ i, i < n → (F i).length ≤ 1048576) :
    Calls Try.prog 33 #[.int .i64 m, v] w fun e w' => ∃ v', e = .returned (.tuple #[v', .bool (rws m n F)]) ∧ (rws m n F = true → Row w' w.heap.size v' (ftl m (frT m F))) ∧ (rws m n F = false → v' = .slice none 0 0) ∧ Below w.heap.size w w' := by
  have hq := isSz_le (m : Int) h
  have HF := Lib.hid (fun w => fieldOf_yes (m : Int) w h)
  have HA := Lib.hid (fun w' (hb : Below w.heap.size w w') => areRowsE (m : Int) n (min B w.heap.size) v F X w' h ((hv.mono (Nat.min_le_left _ _)).below hb) hn hl)
  have HFR := Lib.hid (fun w' (hb : Below w.heap.size w w') hr => fromRowsE m n (min B w.heap.size) v F X w' h ((hv.mono (Nat.min_le_left _ _)).below hb) hr)
  have HN := Lib.hid (fun v w' f k (hk : k ≤ m) (hf : ∀ i, El (m : Int) (f i)) (hs : Se w' v (m : Int) f k) => numbersE (m : Int) v _ _ w' h hs (fun i _ => hf i) (by omega))
  obtain ⟨av, cv, rfl⟩ := hv.slc
  clear hv hl h
  cases hrw : rws (m : Int) n F with
  | false =>
    rw [hrw] at HA
    clear HFR HN
    go_enter Try.func33, Try.ntmps33
    go_wp2_with fail
    refine (HF.out _).mono ?_
    rintro e w1 ⟨rfl, hb1⟩
    have hz_hb1 := hb1.size; (try simp at hz_hb1)
    have HB1 := Lib.hid hb1; clear hb1
    go_wp2_with fail
    refine (HA.out _ (by have hb1 := HB1.out; (repeat' (first | (with_reducible assumption) | (with_reducible exact Below.refl _ _) | (with_reducible refine below_drewN ?_ _) | (with_reducible refine Below.drew ?_) | (with_reducible refine Below.alloc ?_ ?_ _) | (with_reducible refine Below.setCell ?_ ?_ _) | (with_reducible refine Below.trans ?_ (Below.mono (by assumption) ?_)) | (with_reducible exact Nat.le_refl _) | (with_reducible assumption) | omega | (simp; omega) | (simp; done))))).mono ?_
    rintro e w2 ⟨rfl, hb2⟩
    have hz_hb2 := hb2.size; (try simp at hz_hb2)
    have HB2 := Lib.hid hb2; clear hb2
    go_wp2
    go_ret2
    have hb1 := HB1.out
    have hb2 := HB2.out
    exact ⟨_, rfl, (fun h => by cases h), (fun _ => rfl), by (repeat' (first | (with_reducible assumption) | (with_reducible exact Below.refl _ _) | (with_reducible refine below_drewN ?_ _) | (with_reducible refine Below.drew ?_) | (with_reducible refine Below.alloc ?_ ?_ _) | (with_reducible refine Below.setCell ?_ ?_ _) | (with_reducible refine Below.trans ?_ (Below.mono (by assumption) ?_)) | (with_reducible exact Nat.le_refl _) | (with_reducible assumption) | omega | (simp; omega) | (simp; done)))⟩
  | true =>
    rw [hrw] at HA
    have HFR' := Lib.hid (fun w' hb => HFR.out w' hb hrw)
    clear HFR hrw
    go_enter Try.func33, Try.ntmps33
    go_wp2_with fail
    refine (HF.out _).mono ?_
    rintro e w1 ⟨rfl, hb1⟩
    have hz_hb1 := hb1.size; (try simp at hz_hb1)
    have HB1 := Lib.hid hb1; clear hb1
    go_wp2_with fail
    refine (HA.out _ (by have hb1 := HB1.out; (repeat' (first | (with_reducible assumption) | (with_reducible exact Below.refl _ _) | (with_reducible refine below_drewN ?_ _) | (with_reducible refine Below.drew ?_) | (with_reducible refine Below.alloc ?_ ?_ _) | (with_reducible refine Below.setCell ?_ ?_ _) | (with_reducible refine Below.trans ?_ (Below.mono (by assumption) ?_)) | (with_reducible exact Nat.le_refl _) | (with_reducible assumption) | omega | (simp; omega) | (simp; done))))).mono ?_
    rintro e w2 ⟨rfl, hb2⟩
    have hz_hb2 := hb2.size; (try simp at hz_hb2)
    have hfb : w2.heap[w1.heap.size]? = some (ffblk (m : Int)) := (hb2.block _ (by simp)).trans (heap_alloc_new w1 _)
    obtain ⟨f0, f1, f2, ff, fl0⟩ := cells3' hfb
    have HB2 : Hid (Below w.heap.size w w2) := Lib.hid (by have hb1 := HB1.out; (repeat' (first | (with_reducible assumption) | (with_reducible exact Below.refl _ _) | (with_reducible refine below_drewN ?_ _) | (with_reducible refine Below.drew ?_) | (with_reducible refine Below.alloc ?_ ?_ _) | (with_reducible refine Below.setCell ?_ ?_ _) | (with_reducible refine Below.trans ?_ (Below.mono (by assumption) ?_)) | (with_reducible exact Nat.le_refl _) | (with_reducible assumption) | omega | (simp; omega) | (simp; done))))
    clear hb2 hfb
    go_wp2_with fail
    refine (HFR'.out _ HB2.out).mono ?_
    rintro e w3 ⟨g3, k3, cp3, f3, rfl, hg3, he3, hf3, hk3, hl3, hb3⟩
    have HS3 : Hid (Se w3 (.slice (some ⟨g3, 0, none⟩) k3 cp3) (m : Int) f3 k3) := Lib.hid ⟨g3, cp3, rfl, hg3, he3⟩
    have HF3 := Lib.hid hf3
    have HL3 := Lib.hid hl3
    have hz3 := hb3.size
    have HB3 : Hid (Below w.heap.size w w3) := Lib.hid (HB2.out.trans (hb3.mono HB2.out.size))
    clear hg3 he3 hf3 hl3 hb3
    go_wp2_with fail
    refine (HN.out _ _ _ _ hk3 HF3.out HS3.out).mono ?_
    rintro e w4 ⟨v4, rfl, hr4, hb4⟩
    have hz4 := HB3.out.size
    have HR4 := Lib.hid hr4
    have HB4 : Hid (Below w.heap.size w w4) := Lib.hid (HB3.out.trans (hb4.mono HB3.out.size))
    clear hr4 hb4
    go_wp2
    go_ret2
    exact ⟨_, rfl, (fun _ => by rw [← HL3.out]; exact HR4.out.mono hz4), (fun h => by cases h), HB4.out⟩
theorem key_FromRows (q : Int) (n : Nat) (F : Nat → List Int) (hn : n + ofs F n ≤ 1048576) : ∃ (r : List Int) (o : Bool), r.length ≤ 1048576 ∧
      (∀ (w : World) (B : Nat) (v : Value) (X : Nat → Value) (_ : RS w B v n F X), Calls Try.prog 31 #[.int .i64 q, v] w fun e w' => ∃ v', e = .returned (.tuple #[v', .bool o]) ∧ Row w' w.heap.size v' r ∧ Below w.heap.size w w') ∧
      (∀ (w : World) (B : Nat) (v : Value) (X : Nat → Value) (_ : RS w B v n F X), Calls Try.prog 33 #[.int .i64 q, v] w fun e w' => ∃ v', e = .returned (.tuple #[v', .bool o]) ∧ Row w' w.heap.size v' r ∧ Below w.heap.size w w') := by
  have hl : ∀ i, i < n → (F i).length ≤ 1048576 := fun i hi => by have := ofs_len F hi; omega
  cases h : isSz q with
  | false => exact ⟨[], false, by simp, fun w B v X _ => (spec_FromRows_no q v w h).mono fun _ _ ⟨he, hb⟩ => ⟨_, he, Row.nil _ _, hb⟩, fun w B v X _ => (impl_FromRows_no q v w h).mono fun _ _ ⟨he, hb⟩ => ⟨_, he, Row.nil _ _, hb⟩⟩
  | true =>
    have hq := isSz_le q h
    obtain ⟨m, rfl⟩ := Int.eq_ofNat_of_zero_le (show 0 ≤ q by omega)
    cases hr : rws (m : Int) n F with
    | false =>
      refine ⟨[], false, by simp, fun w B v X hv => (spec_FromRows_any m n B v F X w h hv (by omega) hl).mono ?_, fun w B v X hv => (impl_FromRows_any m n B v F X w h hv (by omega) hl).mono ?_⟩ <;>
        (rintro e w' ⟨v', he, _, h2, hb⟩; rw [hr] at he; obtain rfl := h2 hr; exact ⟨_, he, Row.nil _ _, hb⟩)
    | true =>
      refine ⟨ftl m (frT m F), true, by have := ftl_len m (frT m F); omega, fun w B v X hv => (spec_FromRows_any m n B v F X w h hv (by omega) hl).mono ?_, fun w B v X hv => (impl_FromRows_any m n B v F X w h hv (by omega) hl).mono ?_⟩ <;>
        (rintro e w' ⟨v', he, h1, _, hb⟩; rw [hr] at he; exact ⟨_, he, h1 hr, hb⟩)
set_option maxRecDepth 100000 in
set_option maxHeartbeats 4000000 in
/-- laws.FnExactFromRows. -/
theorem walk_FnExactFromRows (q : Int) (v : Value) (n : Nat) (F : Nat → List Int) (w : World) (hv : Sls w v n F) (hn : n ≤ 9223372036854775807) (hl : ∀ i, i < n → (F i).length ≤ 9223372036854775807) :
    Calls Try.prog 8 #[.int .i64 q, v] w fun e w' => e = .returned (.bool true) ∧ Below w.heap.size w w' := by
  have HSZ := Lib.hid (szSS_any v n F w hv hn hl)
  have HV := Lib.hid hv
  obtain ⟨av, cv, rfl⟩ := hv.form
  clear hv hl
  have HB0 : Hid (Below w.heap.size w w) := Lib.hid (Below.refl _ _)
  go_enter Try.func8, Try.ntmps8
  go_wp2_with fail
  refine HSZ.out.mono ?_
  rintro e _ ⟨left, rfl, hleft, rfl⟩
  rcases hleft with rfl | ⟨hl0, hbd⟩
  · go_wp2
    go_ret
    exact ⟨rfl, HB0.out⟩
  obtain ⟨r, o, hr, k1, k2⟩ := key_FromRows q n F hbd
  have K1 := Lib.hid k1; clear k1
  have K2 := Lib.hid k2; clear k2
  have HTO := Lib.hid (fun w' (hb : Below w.heap.size w w') => toIntSS_any _ n F w' (HV.out.below hb (Nat.le_refl _)) (by omega) (fun i hi => by have := ofs_len F hi; omega))
  have hleft : ¬ left < (0 : Int) := by omega
  clear HV HSZ
  go_wp2_with fail
  refine (HTO.out _ HB0.out).mono ?_
  rintro e w1 ⟨v_s, X_s, rfl, hrw1, hbw1⟩
  have hzw1 : w.heap.size ≤ w1.heap.size := hbw1.size
  have HBw1 : Hid (Below w.heap.size w w1) := Lib.hid (HB0.out.trans (hbw1.mono HB0.out.size))
  have hww1 := HBw1.out.size
  clear hbw1 HB0
  have R_s_w1 := Lib.hid hrw1; clear hrw1
  have lt_s := Lib.hid R_s_w1.out.lts
  go_wp2_with fail
  refine (K1.out _ _ v_s X_s R_s_w1.out).mono ?_
  rintro e w2 ⟨v_sp, rfl, hrw2, hbw2⟩
  have hzw2 : w1.heap.size ≤ w2.heap.size := hbw2.size
  have R_s_w2 := Lib.hid (R_s_w1.out.below hbw2)
  clear R_s_w1
  have HBw2 : Hid (Below w.heap.size w w2) := Lib.hid (HBw1.out.trans (hbw2.mono HBw1.out.size))
  have hww2 := HBw2.out.size
  clear hbw2 HBw1
  have R_sp_w2 := Lib.hid hrw2; clear hrw2
  have lt_sp : Hid (∀ g, v_sp.ownBlock = some g → w1.heap.size ≤ g ∧ g < w2.heap.size) := Lib.hid R_sp_w2.out.lt
  clear R_s_w2 lt_s
  go_wp2_with fail
  refine (HTO.out _ HBw2.out).mono ?_
  rintro e w3 ⟨v_x, X_x, rfl, hrw3, hbw3⟩
  have hzw3 : w2.heap.size ≤ w3.heap.size := hbw3.size
  have R_sp_w3 := Lib.hid (R_sp_w2.out.below hbw3)
  clear R_sp_w2
  have HBw3 : Hid (Below w.heap.size w w3) := Lib.hid (HBw2.out.trans (hbw3.mono HBw2.out.size))
  have hww3 := HBw3.out.size
  clear hbw3 HBw2
  have R_x_w3 := Lib.hid hrw3; clear hrw3
  have lt_x := Lib.hid R_x_w3.out.lts
  go_wp2_with fail
  refine (K2.out _ _ v_x X_x R_x_w3.out).mono ?_
  rintro e w4 ⟨v_im, rfl, hrw4, hbw4⟩
  have hzw4 : w3.heap.size ≤ w4.heap.size := hbw4.size
  have R_sp_w4 := Lib.hid (R_sp_w3.out.below hbw4)
  clear R_sp_w3
  have R_x_w4 := Lib.hid (R_x_w3.out.below hbw4)
  clear R_x_w3
  have HBw4 : Hid (Below w.heap.size w w4) := Lib.hid (HBw3.out.trans (hbw4.mono HBw3.out.size))
  have hww4 := HBw4.out.size
  clear hbw4 HBw3
  have R_im_w4 := Lib.hid hrw4; clear hrw4
  have lt_im : Hid (∀ g, v_im.ownBlock = some g → w3.heap.size ≤ g ∧ g < w4.heap.size) := Lib.hid R_im_w4.out.lt
  go_wp2_with fail
  refine (eq_same v_im v_sp r _ _ _ R_im_w4.out R_sp_w4.out (by omega)).mono ?_
  rintro e w5 ⟨rfl, hbw5⟩
  have hzw5 : w4.heap.size ≤ w5.heap.size := hbw5.size
  have R_sp_w5 := Lib.hid (R_sp_w4.out.below hbw5)
  clear R_sp_w4
  have R_x_w5 := Lib.hid (R_x_w4.out.below hbw5)
  clear R_x_w4
  have R_im_w5 := Lib.hid (R_im_w4.out.below hbw5)
  clear R_im_w4
  have HBw5 : Hid (Below w.heap.size w w5) := Lib.hid (HBw4.out.trans (hbw5.mono HBw4.out.size))
  have hww5 := HBw5.out.size
  clear hbw5 HBw4
  go_wp2_with fail
  refine (HTO.out _ HBw5.out).mono ?_
  rintro e w6 ⟨v_y, X_y, rfl, hrw6, hbw6⟩
  have hzw6 : w5.heap.size ≤ w6.heap.size := hbw6.size
  have R_sp_w6 := Lib.hid (R_sp_w5.out.below hbw6)
  clear R_sp_w5
  have R_x_w6 := Lib.hid (R_x_w5.out.below hbw6)
  clear R_x_w5
  have R_im_w6 := Lib.hid (R_im_w5.out.below hbw6)
  clear R_im_w5
  have HBw6 : Hid (Below w.heap.size w w6) := Lib.hid (HBw5.out.trans (hbw6.mono HBw5.out.size))
  have hww6 := HBw6.out.size
  clear hbw6 HBw5
  have R_y_w6 := Lib.hid hrw6; clear hrw6
  have lt_y := Lib.hid R_y_w6.out.lts
  go_wp2_with fail
  refine (eqSS_same v_x v_y n F X_x X_y _ _ _ R_x_w6.out R_y_w6.out (by omega) (by omega)).mono ?_
  rintro e w7 ⟨rfl, hbw7⟩
  have hzw7 : w6.heap.size ≤ w7.heap.size := hbw7.size
  have R_sp_w7 := Lib.hid (R_sp_w6.out.below hbw7)
  clear R_sp_w6
  have R_x_w7 := Lib.hid (R_x_w6.out.below hbw7)
  clear R_x_w6
  have R_im_w7 := Lib.hid (R_im_w6.out.below hbw7)
  clear R_im_w6
  have R_y_w7 := Lib.hid (R_y_w6.out.below hbw7)
  clear R_y_w6
  have HBw7 : Hid (Below w.heap.size w w7) := Lib.hid (HBw6.out.trans (hbw7.mono HBw6.out.size))
  have hww7 := HBw7.out.size
  clear hbw7 HBw6
  clear R_y_w7 lt_y
  go_wp2_with fail
  refine (markSS_keep v_x n F X_x _ 1 _ R_x_w7.out (by omega) (by omega) (by omega) (by omega) (by omega)).mono ?_
  rintro e w8 ⟨rfl, _, hbw8, hkw8⟩
  have hzw8 : w7.heap.size ≤ w8.heap.size := hbw8.size
  have R_sp_w8 := Lib.hid (R_sp_w7.out.keep (w' := w8) (fun g hg => hkw8 g (R_sp_w7.out.lt g hg).2 (fun i hi e => by have h1 := lt_sp.out g hg; have h2 := lt_x.out.2 i hi g e; omega)))
  clear R_sp_w7
  have R_im_w8 := Lib.hid (R_im_w7.out.keep (w' := w8) (fun g hg => hkw8 g (R_im_w7.out.lt g hg).2 (fun i hi e => by have h1 := lt_im.out g hg; have h2 := lt_x.out.2 i hi g e; omega)))
  clear R_im_w7
  have HBw8 : Hid (Below w.heap.size w w8) := Lib.hid (HBw7.out.trans (hbw8.mono (by omega)))
  have hww8 := HBw8.out.size
  clear hbw8 hkw8 HBw7
  clear R_x_w7 lt_x
  have hpos : ¬ (1 + (ofs F n : Int)) < (0 : Int) := by omega
  go_wp2_with fail
  refine (eq_same v_im v_sp r _ _ _ R_im_w8.out R_sp_w8.out (by omega)).mono ?_
  rintro e w9 ⟨rfl, hbw9⟩
  have hzw9 : w8.heap.size ≤ w9.heap.size := hbw9.size
  have R_sp_w9 := Lib.hid (R_sp_w8.out.below hbw9)
  clear R_sp_w8
  have R_im_w9 := Lib.hid (R_im_w8.out.below hbw9)
  clear R_im_w8
  have HBw9 : Hid (Below w.heap.size w w9) := Lib.hid (HBw8.out.trans (hbw9.mono HBw8.out.size))
  have hww9 := HBw9.out.size
  clear hbw9 HBw8
  go_wp2_with fail
  refine (mark_any v_im r _ (1) _ R_im_w9.out (by omega) (by omega) (by omega)).mono ?_
  rintro e w10 ⟨rfl, hrw10, hgw10⟩
  have hzw10 : w9.heap.size ≤ w10.heap.size := hgw10.size
  have R_sp_w10 := Lib.hid (R_sp_w9.out.keep (w' := w10) fun g hg => hgw10.block g (R_sp_w9.out.lt g hg).2 fun e => by have h1 := lt_sp.out g hg; have h2 := lt_im.out g e.symm; omega)
  clear R_sp_w9
  have HBw10 : Hid (Below w.heap.size w w10) := Lib.hid (Below.grown HBw9.out hgw10 (by omega) (fun g e => by have h2 := lt_im.out g e; omega))
  have hww10 := HBw10.out.size
  have R_im_w10 := Lib.hid hrw10
  clear hrw10 hgw10 HBw9 R_im_w9
  go_wp2_with fail
  refine (held_any v_im r.length _ (1) _ R_im_w10.out (by omega) (by omega) (by omega)).mono ?_
  rintro e wx1 ⟨rfl, rfl⟩
  go_wp2_with fail
  refine (HTO.out _ HBw10.out).mono ?_
  rintro e w11 ⟨v_t, X_t, rfl, hrw11, hbw11⟩
  have hzw11 : w10.heap.size ≤ w11.heap.size := hbw11.size
  have R_sp_w11 := Lib.hid (R_sp_w10.out.below hbw11)
  clear R_sp_w10
  have R_im_w11 := Lib.hid (R_im_w10.out.below hbw11)
  clear R_im_w10
  have HBw11 : Hid (Below w.heap.size w w11) := Lib.hid (HBw10.out.trans (hbw11.mono HBw10.out.size))
  have hww11 := HBw11.out.size
  clear hbw11 HBw10
  have R_t_w11 := Lib.hid hrw11; clear hrw11
  have lt_t := Lib.hid R_t_w11.out.lts
  go_wp2_with fail
  refine (K2.out _ _ v_t X_t R_t_w11.out).mono ?_
  rintro e w12 ⟨v_im2, rfl, hrw12, hbw12⟩
  have hzw12 : w11.heap.size ≤ w12.heap.size := hbw12.size
  have R_sp_w12 := Lib.hid (R_sp_w11.out.below hbw12)
  clear R_sp_w11
  have R_im_w12 := Lib.hid (R_im_w11.out.below hbw12)
  clear R_im_w11
  have R_t_w12 := Lib.hid (R_t_w11.out.below hbw12)
  clear R_t_w11
  have HBw12 : Hid (Below w.heap.size w w12) := Lib.hid (HBw11.out.trans (hbw12.mono HBw11.out.size))
  have hww12 := HBw12.out.size
  clear hbw12 HBw11
  have R_im2_w12 := Lib.hid hrw12; clear hrw12
  have lt_im2 : Hid (∀ g, v_im2.ownBlock = some g → w11.heap.size ≤ g ∧ g < w12.heap.size) := Lib.hid R_im2_w12.out.lt
  clear R_t_w12 lt_t
  go_wp2_with fail
  refine (eq_same v_im2 v_sp r _ _ _ R_im2_w12.out R_sp_w12.out (by omega)).mono ?_
  rintro e w13 ⟨rfl, hbw13⟩
  have hzw13 : w12.heap.size ≤ w13.heap.size := hbw13.size
  have R_sp_w13 := Lib.hid (R_sp_w12.out.below hbw13)
  clear R_sp_w12
  have R_im_w13 := Lib.hid (R_im_w12.out.below hbw13)
  clear R_im_w12
  have R_im2_w13 := Lib.hid (R_im2_w12.out.below hbw13)
  clear R_im2_w12
  have HBw13 : Hid (Below w.heap.size w w13) := Lib.hid (HBw12.out.trans (hbw13.mono HBw12.out.size))
  have hww13 := HBw13.out.size
  clear hbw13 HBw12
  go_wp2_with fail
  refine (held_any v_im r.length _ (1) _ R_im_w13.out (by omega) (by omega) (by omega)).mono ?_
  rintro e wx2 ⟨rfl, rfl⟩
  go_wp2
  go_ret
  exact ⟨rfl, HBw13.out⟩
end Go.Proofs.Ytlamclhhocofiaa
