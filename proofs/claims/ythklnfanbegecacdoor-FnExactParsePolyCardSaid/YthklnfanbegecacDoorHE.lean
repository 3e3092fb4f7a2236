/- spec.plGood and plTable, impl.field.isPoly and isTable by contracts. -/
import Derived.Test.YthklnfanbegecacDoorHD
namespace Go.Proofs.YthklnfanbegecacDoor
open Go.RowKit
theorem good_long {q : Int} {l : List Int} (h : ¬ (l.length : Int) ≤ q) : good q l = false := by simp [good, h]
theorem good_out {q : Int} {l : List Int} (h : l.all (inF q) = false) : good q l = false := by simp [good, h]
theorem good_nil (q : Int) (h : 0 ≤ q) : good q [] = true := by simp [good, h]
theorem good_last {q : Int} {l : List Int} (h : (l.length : Int) ≤ q) (ha : l.all (inF q) = true) (h0 : 0 < l.length) : good q l = decide (0 < l.getD (l.length - 1) 0) := by
  have : ¬ l.length = 0 := by omega
  simp [good, h, ha, this]
theorem last_bd {q : Int} {l : List Int} (ha : l.all (inF q) = true) (h0 : 0 < l.length) : 0 ≤ l.getD (l.length - 1) 0 ∧ l.getD (l.length - 1) 0 < q := by
  have h := List.all_eq_true.1 ha (l.getD (l.length - 1) 0) (by
    have h1 : l.length - 1 < l.length := by omega
    rw [show l.getD (l.length - 1) 0 = l[l.length - 1] by simp [List.getD, h1]]
    exact List.getElem_mem _)
  simpa [inF] using h

set_option maxHeartbeats 1000000 in
/-- spec.plGood. -/
theorem plGood_any (q : Int) (v : Value) (l : List Int) (w : World) (h : Sl w v l) (hl : l.length ≤ 1048576) :
    Calls Tryd.prog 17 #[.int .i64 q, v] w fun e w' => e = .returned (.bool (isSz q && good q l)) ∧ Below w.heap.size w w' := by
  have HL := Lib.hid (fun w' (hb : Below w.heap.size w w') => by have := l1All_any v l 0 (q - 1) w' (h.below hb (Nat.le_refl _)) hl; rw [all_inF] at this; exact this)
  by_cases h0 : 0 < l.length
  · obtain ⟨b, off, cap, rfl, hb, hc⟩ := h.open rfl h0
    have hlast := hc (l.length - 1) (by omega)
    cases hs : isSz q with
    | false =>
      clear h hc hlast
      generalize hn : l.length = n at *
      have HS := Lib.hid hs; clear hs hn
      go_enter Tryd.func17, Tryd.ntmps17
      go_wp2_with fail
      refine (fdSize_any _ _).mono ?_
      rintro e w1 ⟨rfl, hb1⟩
      rw [HS.out]
      go_wp2
      go_ret
      exact ⟨rfl, hb1⟩
    | true =>
      have hq := isSz_le q hs
      have hz : ((l.length : Int) - 1) = ((l.length - 1 : Nat) : Int) := by omega
      by_cases hlen : (l.length : Int) ≤ q
      · cases hall : l.all (inF q) with
        | false =>
          have HG := Lib.hid (good_out hall)
          have HL' := Lib.hid (fun w' hb => by have := HL.out w' hb; rw [hall] at this; exact this)
          clear h hc hlast HL hall
          generalize hn : l.length = n at *
          have HS := Lib.hid hs; clear hs hn
          go_enter Tryd.func17, Tryd.ntmps17
          go_wp2_with fail
          refine (fdSize_any _ _).mono ?_
          rintro e w1 ⟨rfl, hb1⟩
          rw [HS.out]
          go_wp2_with fail
          refine (HL'.out _ hb1).mono ?_
          rintro e w2 ⟨rfl, rfl⟩
          go_wp2
          go_ret
          exact ⟨ret_bool (by rw [HG.out]; rfl), hb1⟩
        | true =>
          obtain ⟨u0, u1⟩ := last_bd hall h0
          have HG := Lib.hid (good_last hlen hall h0)
          have HL' := Lib.hid (fun w' hb => by have := HL.out w' hb; rw [hall] at this; exact this)
          have HC : Hid (∀ w', Below w.heap.size w w' → w'.cell? ⟨b, off + (l.length - 1), none⟩ = some (.int .i64 (l.getD (l.length - 1) 0))) := Lib.hid (fun w' hbb => (hbb.cell (p := ⟨b, off + (l.length - 1), none⟩) hb).trans hlast)
          clear h hc hlast HL hall
          generalize l.getD (l.length - 1) 0 = u at *
          generalize hn : l.length = n at *
          have HS := Lib.hid hs; clear hs hn
          have hne : ((n : Int) == 0) = false := by simp; omega
          have hi1 : (0 : Int) ≤ (n : Int) - 1 := by omega
          go_enter Tryd.func17, Tryd.ntmps17
          go_wp2_with fail
          refine (fdSize_any _ _).mono ?_
          rintro e w1 ⟨rfl, hb1⟩
          rw [HS.out]
          have hcell := HC.out w1 hb1
          go_wp2_with fail
          refine (HL'.out _ hb1).mono ?_
          rintro e w2 ⟨rfl, rfl⟩
          go_wp2
          go_ret
          exact ⟨ret_bool (by rw [HG.out]; rfl), hb1⟩
      · have HG := Lib.hid (good_long hlen)
        clear h hc hlast HL
        generalize hn : l.length = n at *
        have HS := Lib.hid hs; clear hs hn
        go_enter Tryd.func17, Tryd.ntmps17
        go_wp2_with fail
        refine (fdSize_any _ _).mono ?_
        rintro e w1 ⟨rfl, hb1⟩
        rw [HS.out]
        go_wp2
        go_ret
        exact ⟨ret_bool (by rw [HG.out]), hb1⟩
  · obtain rfl : l = [] := List.length_eq_zero_iff.1 (by omega)
    obtain ⟨a, cap, rfl⟩ := h.empty
    cases hs : isSz q with
    | false =>
      have HS := Lib.hid hs
      clear h h0 hl hs
      go_enter Tryd.func17, Tryd.ntmps17
      go_wp2_with fail
      refine (fdSize_any _ _).mono ?_
      rintro e w1 ⟨rfl, hb1⟩
      rw [HS.out]
      go_wp2
      go_ret
      exact ⟨rfl, hb1⟩
    | true =>
      have hq := isSz_le q hs
      have HG := Lib.hid (good_nil q (by omega))
      have HS := Lib.hid hs
      clear h h0 hl hs
      go_enter Tryd.func17, Tryd.ntmps17
      go_wp2_with fail
      refine (fdSize_any _ _).mono ?_
      rintro e w1 ⟨rfl, hb1⟩
      rw [HS.out]
      go_wp2_with fail
      refine (HL.out _ hb1).mono ?_
      rintro e w2 ⟨rfl, rfl⟩
      go_wp2
      go_ret
      exact ⟨ret_bool (by rw [HG.out]; rfl), hb1⟩

theorem tabl_long {q : Int} {l : List Int} (h : ¬ (l.length : Int) = q) : tabl q l = false := by simp [tabl, h]
theorem tabl_is {q : Int} {l : List Int} (h : (l.length : Int) = q) : tabl q l = l.all (inF q) := by simp [tabl, h]
theorem Sl.form {w : World} {v : Value} {l : List Int} (h : Sl w v l) : ∃ a cap, v = .slice a l.length cap := by
  rcases h with ⟨rfl, a, cap, rfl⟩ | ⟨b, off, cap, rfl, _⟩
  · exact ⟨_, _, rfl⟩
  · exact ⟨_, _, rfl⟩
set_option maxHeartbeats 1000000 in
/-- impl.field.isPoly. -/
theorem isPoly_any (q : Int) (v : Value) (l : List Int) (w : World) (h : Sl w v l) (hl : l.length ≤ 1048576) (hq : 0 ≤ q) :
    Calls Tryd.prog 12 #[fdE q, v] w fun e w' => e = .returned (.bool (good q l)) ∧ Below w.heap.size w w' := by
  have HL := Lib.hid (fun w' (hb : Below w.heap.size w w') => hasAll_any q v l w' (h.below hb (Nat.le_refl _)) hl)
  by_cases h0 : 0 < l.length
  · obtain ⟨b, off, cap, rfl, hb, hc⟩ := h.open rfl h0
    have hlast := hc (l.length - 1) (by omega)
    have hz : ((l.length : Int) - 1) = ((l.length - 1 : Nat) : Int) := by omega
    by_cases hlen : (l.length : Int) ≤ q
    · cases hall : l.all (inF q) with
      | false =>
        have HG := Lib.hid (good_out hall)
        have HL' := Lib.hid (fun w' hb => by have := HL.out w' hb; rw [hall] at this; exact this)
        clear h hc hlast HL hall
        generalize hn : l.length = n at *
        clear hn
        go_enter Tryd.func12, Tryd.ntmps12
        go_wp2_with fail
        refine (HL'.out _ (by (repeat' (first | (with_reducible assumption) | (with_reducible exact Below.refl _ _) | (with_reducible refine below_drewN ?_ _) | (with_reducible refine Below.drew ?_) | (with_reducible refine Below.alloc ?_ ?_ _) | (with_reducible refine Below.setCell ?_ ?_ _) | (with_reducible refine Below.trans ?_ (Below.mono (by assumption) ?_)) | (with_reducible exact Nat.le_refl _) | (with_reducible assumption) | omega | (simp; omega) | (simp; done))))).mono ?_
        rintro e w1 ⟨rfl, hb1⟩
        go_wp2
        go_ret
        exact ⟨ret_bool (by rw [HG.out]), by (repeat' (first | (with_reducible assumption) | (with_reducible exact Below.refl _ _) | (with_reducible refine below_drewN ?_ _) | (with_reducible refine Below.drew ?_) | (with_reducible refine Below.alloc ?_ ?_ _) | (with_reducible refine Below.setCell ?_ ?_ _) | (with_reducible refine Below.trans ?_ (Below.mono (by assumption) ?_)) | (with_reducible exact Nat.le_refl _) | (with_reducible assumption) | omega | (simp; omega) | (simp; done)))⟩
      | true =>
        obtain ⟨u0, u1⟩ := last_bd hall h0
        have HG := Lib.hid (good_last hlen hall h0)
        have HL' := Lib.hid (fun w' hb => by have := HL.out w' hb; rw [hall] at this; exact this)
        have HC : Hid (∀ w', Below w.heap.size w w' → w'.cell? ⟨b, off + (l.length - 1), none⟩ = some (.int .i64 (l.getD (l.length - 1) 0))) := Lib.hid (fun w' hbb => (hbb.cell (p := ⟨b, off + (l.length - 1), none⟩) hb).trans hlast)
        clear h hc hlast HL hall
        generalize l.getD (l.length - 1) 0 = u at *
        generalize hn : l.length = n at *
        clear hn
        have hne : ((n : Int) == 0) = false := by simp; omega
        have hi1 : (0 : Int) ≤ (n : Int) - 1 := by omega
        have HU : Hid ((u != 0) = decide (0 < u)) := Lib.hid (by
          by_cases hu : u = 0
          · subst hu; rfl
          · have h3 : 0 < u := by omega
            simp [hu, h3])
        go_enter Tryd.func12, Tryd.ntmps12
        go_wp2_with fail
        refine (HL'.out _ (by (repeat' (first | (with_reducible assumption) | (with_reducible exact Below.refl _ _) | (with_reducible refine below_drewN ?_ _) | (with_reducible refine Below.drew ?_) | (with_reducible refine Below.alloc ?_ ?_ _) | (with_reducible refine Below.setCell ?_ ?_ _) | (with_reducible refine Below.trans ?_ (Below.mono (by assumption) ?_)) | (with_reducible exact Nat.le_refl _) | (with_reducible assumption) | omega | (simp; omega) | (simp; done))))).mono ?_
        rintro e w1 ⟨rfl, hb1⟩
        have hcell := HC.out w1 (by (repeat' (first | (with_reducible assumption) | (with_reducible exact Below.refl _ _) | (with_reducible refine below_drewN ?_ _) | (with_reducible refine Below.drew ?_) | (with_reducible refine Below.alloc ?_ ?_ _) | (with_reducible refine Below.setCell ?_ ?_ _) | (with_reducible refine Below.trans ?_ (Below.mono (by assumption) ?_)) | (with_reducible exact Nat.le_refl _) | (with_reducible assumption) | omega | (simp; omega) | (simp; done))))
        go_wp2
        go_ret
        exact ⟨ret_bool (by rw [HG.out, ← HU.out]), by (repeat' (first | (with_reducible assumption) | (with_reducible exact Below.refl _ _) | (with_reducible refine below_drewN ?_ _) | (with_reducible refine Below.drew ?_) | (with_reducible refine Below.alloc ?_ ?_ _) | (with_reducible refine Below.setCell ?_ ?_ _) | (with_reducible refine Below.trans ?_ (Below.mono (by assumption) ?_)) | (with_reducible exact Nat.le_refl _) | (with_reducible assumption) | omega | (simp; omega) | (simp; done)))⟩
    · have HG := Lib.hid (good_long hlen)
      clear h hc hlast HL
      generalize hn : l.length = n at *
      clear hn
      go_enter Tryd.func12, Tryd.ntmps12
      go_wp2
      go_ret
      exact ⟨ret_bool (by rw [HG.out]), by (repeat' (first | (with_reducible assumption) | (with_reducible exact Below.refl _ _) | (with_reducible refine below_drewN ?_ _) | (with_reducible refine Below.drew ?_) | (with_reducible refine Below.alloc ?_ ?_ _) | (with_reducible refine Below.setCell ?_ ?_ _) | (with_reducible refine Below.trans ?_ (Below.mono (by assumption) ?_)) | (with_reducible exact Nat.le_refl _) | (with_reducible assumption) | omega | (simp; omega) | (simp; done)))⟩
  · obtain rfl : l = [] := List.length_eq_zero_iff.1 (by omega)
    obtain ⟨a, cap, rfl⟩ := h.empty
    have HG := Lib.hid (good_nil q hq)
    clear h h0 hl
    go_enter Tryd.func12, Tryd.ntmps12
    go_wp2_with fail
    refine (HL.out _ (by (repeat' (first | (with_reducible assumption) | (with_reducible exact Below.refl _ _) | (with_reducible refine below_drewN ?_ _) | (with_reducible refine Below.drew ?_) | (with_reducible refine Below.alloc ?_ ?_ _) | (with_reducible refine Below.setCell ?_ ?_ _) | (with_reducible refine Below.trans ?_ (Below.mono (by assumption) ?_)) | (with_reducible exact Nat.le_refl _) | (with_reducible assumption) | omega | (simp; omega) | (simp; done))))).mono ?_
    rintro e w1 ⟨rfl, hb1⟩
    go_wp2
    go_ret
    exact ⟨ret_bool (by rw [HG.out]), by (repeat' (first | (with_reducible assumption) | (with_reducible exact Below.refl _ _) | (with_reducible refine below_drewN ?_ _) | (with_reducible refine Below.drew ?_) | (with_reducible refine Below.alloc ?_ ?_ _) | (with_reducible refine Below.setCell ?_ ?_ _) | (with_reducible refine Below.trans ?_ (Below.mono (by assumption) ?_)) | (with_reducible exact Nat.le_refl _) | (with_reducible assumption) | omega | (simp; omega) | (simp; done)))⟩
end Go.Proofs.YthklnfanbegecacDoor
