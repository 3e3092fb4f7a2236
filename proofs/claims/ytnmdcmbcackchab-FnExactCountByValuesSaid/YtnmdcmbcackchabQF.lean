/- CountByValues: its key and the walk of its law. -/
import Derived.Test.YtnmdcmbcackchabQD
import Derived.Test.YtnmdcmbcackchabQE
namespace Go.Proofs.Ytnmdcmbcackchab
open Go.RowKit
theorem spec_CountByValues_no (q d : Int) (w : World) (h : dOK q d 0 = false) :
    Calls Try.prog 17 #[.int .i64 q, .int .i64 d] w fun e w' => e = .returned (.tuple #[.slice none 0 0, .bool false]) ∧ Below w.heap.size w w' := by
  have HS := Lib.hid (fun w => fdSize_any q w)
  have HI := Lib.hid (fun w => l1In_any d 0 (q - 1) w)
  cases hs : isSz q with
  | false =>
    rw [hs] at HS
    clear hs h
    go_enter Try.func17, Try.ntmps17
    go_wp2_with fail
    refine (HS.out _).mono ?_
    rintro e w1 ⟨rfl, hb1⟩
    obtain ⟨hc1, hf1⟩ := bcell hb1; have hz1 := hb1.size; (try simp at hz1); have HB1 := Lib.hid hb1; clear hb1
    go_wp2
    go_ret2
    have hb1 := HB1.out
    exact ⟨rfl, by (repeat' (first | (with_reducible assumption) | (with_reducible exact Below.refl _ _) | (with_reducible refine below_drewN ?_ _) | (with_reducible refine Below.drew ?_) | (with_reducible refine Below.alloc ?_ ?_ _) | (with_reducible refine Below.setCell ?_ ?_ _) | (with_reducible refine Below.trans ?_ (Below.mono (by assumption) ?_)) | (with_reducible exact Nat.le_refl _) | (with_reducible assumption) | omega | (simp; omega) | (simp; done)))⟩
  | true =>
    have hq := isSz_le q hs
    have hw1 : IntKind.i64.wrap (q - 1) = q - 1 := IntWalk.i64_in _ (by omega)
    have hd : (decide (0 ≤ d) && decide (d ≤ q - 1)) = false := by
      simp only [dOK, hs, Bool.true_and, Bool.and_eq_false_iff, decide_eq_false_iff_not] at h ⊢
      omega
    rw [hd] at HI
    rw [hs] at HS
    clear hd hs h
    go_enter Try.func17, Try.ntmps17
    go_wp2_with fail
    refine (HS.out _).mono ?_
    rintro e w1 ⟨rfl, hb1⟩
    obtain ⟨hc1, hf1⟩ := bcell hb1; have hz1 := hb1.size; (try simp at hz1); have HB1 := Lib.hid hb1; clear hb1
    go_wp2_with fail
    refine (HI.out _).mono ?_
    rintro e _ ⟨rfl, rfl⟩
    go_wp2
    go_ret2
    have hb1 := HB1.out
    exact ⟨rfl, by (repeat' (first | (with_reducible assumption) | (with_reducible exact Below.refl _ _) | (with_reducible refine below_drewN ?_ _) | (with_reducible refine Below.drew ?_) | (with_reducible refine Below.alloc ?_ ?_ _) | (with_reducible refine Below.setCell ?_ ?_ _) | (with_reducible refine Below.trans ?_ (Below.mono (by assumption) ?_)) | (with_reducible exact Nat.le_refl _) | (with_reducible assumption) | omega | (simp; omega) | (simp; done)))⟩
theorem dOK0_nat {q d : Int} (h : dOK q d 0 = true) : ∃ m D : Nat, q = m ∧ d = D ∧ isSz (m : Int) = true ∧ D < m := by
  simp only [dOK, Bool.and_eq_true, decide_eq_true_iff] at h
  obtain ⟨hs, h1, h2⟩ := h
  have hq := isSz_le q hs
  obtain ⟨m, rfl⟩ := Int.eq_ofNat_of_zero_le (show 0 ≤ q by omega)
  obtain ⟨D, rfl⟩ := Int.eq_ofNat_of_zero_le (show 0 ≤ d by omega)
  exact ⟨m, D, rfl, rfl, hs, by omega⟩
theorem cbv_rows {m d : Nat} (h : isSz (m : Int) = true) : fl (cvc m d (rnd m d)) (m + 1) = fl (oc (TSp m d) ((m - 1) * m ^ d)) (m + 1) := fl_congr fun y _ => cbv_eq h y
theorem key_CountByValues (q : Int) (degree : Int) : ∃ (r : List Int) (o : Bool), r.length ≤ 1048576 ∧ (∀ (w : World), Calls Try.prog 17 #[.int .i64 q, .int .i64 degree] w fun e w' => ∃ v, e = .returned (.tuple #[v, .bool o]) ∧ Row w' w.heap.size v r ∧ Below w.heap.size w w') ∧
      (∀ (w : World), Calls Try.prog 18 #[.int .i64 q, .int .i64 degree] w fun e w' => ∃ v, e = .returned (.tuple #[v, .bool o]) ∧ Row w' w.heap.size v r ∧ Below w.heap.size w w') := by
  cases h : dOK q degree 0 with
  | false => exact ⟨[], false, by simp, fun w => (spec_CountByValues_no q degree w h).mono (by rintro e w' ⟨rfl, hb⟩; exact ⟨_, rfl, Row.nil _ _, hb⟩), fun w => (impl_CountByValues_no q degree w h).mono (by rintro e w' ⟨rfl, hb⟩; exact ⟨_, rfl, Row.nil _ _, hb⟩)⟩
  | true =>
    obtain ⟨m, d, rfl, rfl, hs, hdm⟩ := dOK0_nat h
    have hq := isSz_le (m : Int) hs
    cases hf : few m d with
    | false => exact ⟨[], false, by simp, fun w => (spec_CountByValues_few m d w hs hdm hf).mono (by rintro e w' ⟨rfl, hb⟩; exact ⟨_, rfl, Row.nil _ _, hb⟩), fun w => (impl_CountByValues_few m d w hs hdm hf).mono (by rintro e w' ⟨rfl, hb⟩; exact ⟨_, rfl, Row.nil _ _, hb⟩)⟩
    | true => exact ⟨_, true, by rw [fl_len]; omega, fun w => spec_CountByValues_yes m d w hs hdm hf, fun w => by have := impl_CountByValues_yes m d w hs hdm hf; rw [cbv_rows hs] at this; exact this⟩
set_option maxRecDepth 100000 in
set_option maxHeartbeats 4000000 in
/-- laws.FnExactCountByValues. -/
theorem walk_FnExactCountByValues (q : Int) (degree : Int) (w : World) (_h_q : (Lit.int .i64 q).wf = true) (_h_degree : (Lit.int .i64 degree).wf = true) :
    Calls Try.prog 4 #[.int .i64 q, .int .i64 degree] w fun e w' => e = .returned (.bool true) ∧ Below w.heap.size w w' := by
  clear _h_q
  clear _h_degree
  obtain ⟨r, o, hr, k1, k2⟩ := key_CountByValues q degree
  have K1 := Lib.hid k1; clear k1
  have K2 := Lib.hid k2; clear k2
  have HB0 : Hid (Below w.heap.size w w) := Lib.hid (Below.refl _ _)
  go_enter Try.func4, Try.ntmps4
  go_wp2_with fail
  refine (K1.out _ ).mono ?_
  rintro e w1 ⟨v_sp, rfl, hrw1, hbw1⟩
  have hzw1 : w.heap.size ≤ w1.heap.size := hbw1.size
  have HBw1 : Hid (Below w.heap.size w w1) := Lib.hid (HB0.out.trans (hbw1.mono HB0.out.size))
  have hww1 := HBw1.out.size
  clear hbw1 HB0
  have R_sp_w1 := Lib.hid hrw1; clear hrw1
  have lt_sp : Hid (∀ g, v_sp.ownBlock = some g → w.heap.size ≤ g ∧ g < w1.heap.size) := Lib.hid R_sp_w1.out.lt
  go_wp2_with fail
  refine (K2.out _ ).mono ?_
  rintro e w2 ⟨v_im, rfl, hrw2, hbw2⟩
  have hzw2 : w1.heap.size ≤ w2.heap.size := hbw2.size
  have R_sp_w2 := Lib.hid (R_sp_w1.out.below hbw2)
  clear R_sp_w1
  have HBw2 : Hid (Below w.heap.size w w2) := Lib.hid (HBw1.out.trans (hbw2.mono HBw1.out.size))
  have hww2 := HBw2.out.size
  clear hbw2 HBw1
  have R_im_w2 := Lib.hid hrw2; clear hrw2
  have lt_im : Hid (∀ g, v_im.ownBlock = some g → w1.heap.size ≤ g ∧ g < w2.heap.size) := Lib.hid R_im_w2.out.lt
  go_wp2_with fail
  refine (eq_same v_im v_sp r _ _ _ R_im_w2.out R_sp_w2.out (by omega)).mono ?_
  rintro e w3 ⟨rfl, hbw3⟩
  have hzw3 : w2.heap.size ≤ w3.heap.size := hbw3.size
  have R_sp_w3 := Lib.hid (R_sp_w2.out.below hbw3)
  clear R_sp_w2
  have R_im_w3 := Lib.hid (R_im_w2.out.below hbw3)
  clear R_im_w2
  have HBw3 : Hid (Below w.heap.size w w3) := Lib.hid (HBw2.out.trans (hbw3.mono HBw2.out.size))
  have hww3 := HBw3.out.size
  clear hbw3 HBw2
  go_wp2_with fail
  refine (mark_any v_im r _ (1) _ R_im_w3.out (by omega) (by omega) (by omega)).mono ?_
  rintro e w4 ⟨rfl, hrw4, hgw4⟩
  have hzw4 : w3.heap.size ≤ w4.heap.size := hgw4.size
  have R_sp_w4 := Lib.hid (R_sp_w3.out.keep (w' := w4) fun g hg => hgw4.block g (R_sp_w3.out.lt g hg).2 fun e => by have h1 := lt_sp.out g hg; have h2 := lt_im.out g e.symm; omega)
  clear R_sp_w3
  have HBw4 : Hid (Below w.heap.size w w4) := Lib.hid (Below.grown HBw3.out hgw4 (by omega) (fun g e => by have h2 := lt_im.out g e; omega))
  have hww4 := HBw4.out.size
  have R_im_w4 := Lib.hid hrw4
  clear hrw4 hgw4 HBw3 R_im_w3
  go_wp2_with fail
  refine (held_any v_im r.length _ (1) _ R_im_w4.out (by omega) (by omega) (by omega)).mono ?_
  rintro e wx1 ⟨rfl, rfl⟩
  go_wp2_with fail
  refine (K2.out _ ).mono ?_
  rintro e w5 ⟨v_im2, rfl, hrw5, hbw5⟩
  have hzw5 : w4.heap.size ≤ w5.heap.size := hbw5.size
  have R_sp_w5 := Lib.hid (R_sp_w4.out.below hbw5)
  clear R_sp_w4
  have R_im_w5 := Lib.hid (R_im_w4.out.below hbw5)
  clear R_im_w4
  have HBw5 : Hid (Below w.heap.size w w5) := Lib.hid (HBw4.out.trans (hbw5.mono HBw4.out.size))
  have hww5 := HBw5.out.size
  clear hbw5 HBw4
  have R_im2_w5 := Lib.hid hrw5; clear hrw5
  have lt_im2 : Hid (∀ g, v_im2.ownBlock = some g → w4.heap.size ≤ g ∧ g < w5.heap.size) := Lib.hid R_im2_w5.out.lt
  go_wp2_with fail
  refine (eq_same v_im2 v_sp r _ _ _ R_im2_w5.out R_sp_w5.out (by omega)).mono ?_
  rintro e w6 ⟨rfl, hbw6⟩
  have hzw6 : w5.heap.size ≤ w6.heap.size := hbw6.size
  have R_sp_w6 := Lib.hid (R_sp_w5.out.below hbw6)
  clear R_sp_w5
  have R_im_w6 := Lib.hid (R_im_w5.out.below hbw6)
  clear R_im_w5
  have R_im2_w6 := Lib.hid (R_im2_w5.out.below hbw6)
  clear R_im2_w5
  have HBw6 : Hid (Below w.heap.size w w6) := Lib.hid (HBw5.out.trans (hbw6.mono HBw5.out.size))
  have hww6 := HBw6.out.size
  clear hbw6 HBw5
  go_wp2_with fail
  refine (held_any v_im r.length _ (1) _ R_im_w6.out (by omega) (by omega) (by omega)).mono ?_
  rintro e wx2 ⟨rfl, rfl⟩
  go_wp2
  go_ret
  exact ⟨rfl, HBw6.out⟩
end Go.Proofs.Ytnmdcmbcackchab
