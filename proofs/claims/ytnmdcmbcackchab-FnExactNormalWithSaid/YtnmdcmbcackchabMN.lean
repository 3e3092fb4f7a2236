/- The walks of the laws of NormalWith and CountPermuting. -/
import Derived.Test.YtnmdcmbcackchabML
import Derived.Test.YtnmdcmbcackchabLS
namespace Go.Proofs.Ytnmdcmbcackchab
open Go.RowKit
theorem RS.lts {w : World} {B n : Nat} {v : Value} {F : Nat → List Int} {X : Nat → Value} (h : RS w B v n F X) : (∀ g, v.ownBlock = some g → B ≤ g ∧ g < w.heap.size) ∧ ∀ i, i < n → ∀ g, (X i).ownBlock = some g → B ≤ g ∧ g < w.heap.size :=
  ⟨h.lt, fun i hi g hg => (h.inner i hi).lt g hg⟩
theorem PF_ofs (m d : Nat) (L : List Nat) : ∀ n, ofs (PF m d L) n = n * (d + 1)
  | 0 => by simp [ofs]
  | n + 1 => by
    rw [ofs, PF_ofs m d L n, Nat.succ_mul]
    show n * (d + 1) + (fl (pf m d (L.getD n 0)) (d + 1)).length = _
    rw [fl_len]
theorem key_NormalWith (q : Int) (k : Int) : ∃ (n : Nat) (F : Nat → List Int) (o : Bool), n ≤ 1048576 ∧ ofs F n ≤ 900 ∧ (∀ (w : World), Calls Try.prog 19 #[.int .i64 q, .int .i64 k] w fun e w' => ∃ v X, e = .returned (.tuple #[v, .bool o]) ∧ RS w' w.heap.size v n F X ∧ Below w.heap.size w w') ∧
      (∀ (w : World), Calls Try.prog 20 #[.int .i64 q, .int .i64 k] w fun e w' => ∃ v X, e = .returned (.tuple #[v, .bool o]) ∧ RS w' w.heap.size v n F X ∧ Below w.heap.size w w') := by
  cases h : askd q k with
  | false => exact ⟨0, fun _ => [], false, by omega, by simp [ofs], fun w => (spec_NormalWith_no q k w h).mono (by rintro e w' ⟨rfl, hb⟩; exact ⟨_, fun _ => .slice none 0 0, rfl, RS.nil _ _ _ _, hb⟩), fun w => (impl_NormalWith_no q k w h).mono (by rintro e w' ⟨rfl, hb⟩; exact ⟨_, fun _ => .slice none 0 0, rfl, RS.nil _ _ _ _, hb⟩)⟩
  | true =>
    obtain ⟨m, d, rfl, rfl, hs, h7, hd, hdm⟩ := askd_nat h
    have hfew := nl_few hs h7 hd hdm
    refine ⟨_, _, true, by omega, ?_, fun w => spec_NormalWith_yes m d w hs h7 hd hdm, fun w => impl_NormalWith_yes m d w hs h7 hd hdm⟩
    rw [PF_ofs]
    exact Nat.le_trans (Nat.mul_le_mul hfew (show d + 1 ≤ 8 by omega)) (by decide)
set_option maxRecDepth 100000 in
set_option maxHeartbeats 4000000 in
/-- laws.FnExactNormalWith. -/
theorem walk_FnExactNormalWith (q : Int) (k : Int) (_h_q : (Lit.int .i64 q).wf = true) (_h_k : (Lit.int .i64 k).wf = true) (w : World) :
    Calls Try.prog 5 #[.int .i64 q, .int .i64 k] w fun e w' => e = .returned (.bool true) ∧ Below w.heap.size w w' := by
  clear _h_q
  clear _h_k
  obtain ⟨n, F, o, hn, hl, k1, k2⟩ := key_NormalWith q k
  have K1 := Lib.hid k1; clear k1
  have K2 := Lib.hid k2; clear k2
  have HB0 : Hid (Below w.heap.size w w) := Lib.hid (Below.refl _ _)
  go_enter Try.func5, Try.ntmps5
  go_wp2_with fail
  refine (K1.out _ ).mono ?_
  rintro e w1 ⟨v_sp, X_sp, rfl, hrw1, hbw1⟩
  have hzw1 : w.heap.size ≤ w1.heap.size := hbw1.size
  have HBw1 : Hid (Below w.heap.size w w1) := Lib.hid (HB0.out.trans (hbw1.mono HB0.out.size))
  have hww1 := HBw1.out.size
  clear hbw1 HB0
  have R_sp_w1 := Lib.hid hrw1; clear hrw1
  have lt_sp := Lib.hid R_sp_w1.out.lts
  go_wp2_with fail
  refine (K2.out _ ).mono ?_
  rintro e w2 ⟨v_im, X_im, rfl, hrw2, hbw2⟩
  have hzw2 : w1.heap.size ≤ w2.heap.size := hbw2.size
  have R_sp_w2 := Lib.hid (R_sp_w1.out.below hbw2)
  clear R_sp_w1
  have HBw2 : Hid (Below w.heap.size w w2) := Lib.hid (HBw1.out.trans (hbw2.mono HBw1.out.size))
  have hww2 := HBw2.out.size
  clear hbw2 HBw1
  have R_im_w2 := Lib.hid hrw2; clear hrw2
  have lt_im := Lib.hid R_im_w2.out.lts
  go_wp2_with fail
  refine (eqSS_same v_im v_sp n F X_im X_sp _ _ _ R_im_w2.out R_sp_w2.out (by omega) (by omega)).mono ?_
  rintro e w3 ⟨rfl, hbw3⟩
  have hzw3 : w2.heap.size ≤ w3.heap.size := hbw3.size
  have R_sp_w3 := Lib.hid (R_sp_w2.out.below hbw3)
  clear R_sp_w2
  have R_im_w3 := Lib.hid (R_im_w2.out.below hbw3)
  clear R_im_w2
  have HBw3 : Hid (Below w.heap.size w w3) := Lib.hid (HBw2.out.trans (hbw3.mono HBw2.out.size))
  have hww3 := HBw3.out.size
  clear hbw3 HBw2
  go_wp2_with fail
  refine (markSS_any v_im n F X_im _ 1 _ R_im_w3.out (by omega) (by omega) (by omega) (by omega) (by omega)).mono ?_
  rintro e w4 ⟨rfl, hrw4, hbw4⟩
  have hzw4 : w3.heap.size ≤ w4.heap.size := hbw4.size
  have R_sp_w4 := Lib.hid (R_sp_w3.out.keep (w' := w4) (fun g hg => hbw4.block g (by have h1 := lt_sp.out.1 g hg; omega)) (fun i hi g hg => hbw4.block g (by have h1 := lt_sp.out.2 i hi g hg; omega)))
  clear R_sp_w3
  have HBw4 : Hid (Below w.heap.size w w4) := Lib.hid (HBw3.out.trans (hbw4.mono (by omega)))
  have hww4 := HBw4.out.size
  have R_im_w4 := Lib.hid hrw4
  clear hrw4 hbw4 HBw3 R_im_w3
  go_wp2_with fail
  refine (heldSS_any v_im n F X_im _ 1 _ R_im_w4.out (by omega) (by omega) (by omega) (by omega)).mono ?_
  rintro e wx1 ⟨rfl, rfl⟩
  go_wp2_with fail
  refine (K2.out _ ).mono ?_
  rintro e w5 ⟨v_im2, X_im2, rfl, hrw5, hbw5⟩
  have hzw5 : w4.heap.size ≤ w5.heap.size := hbw5.size
  have R_sp_w5 := Lib.hid (R_sp_w4.out.below hbw5)
  clear R_sp_w4
  have R_im_w5 := Lib.hid (R_im_w4.out.below hbw5)
  clear R_im_w4
  have HBw5 : Hid (Below w.heap.size w w5) := Lib.hid (HBw4.out.trans (hbw5.mono HBw4.out.size))
  have hww5 := HBw5.out.size
  clear hbw5 HBw4
  have R_im2_w5 := Lib.hid hrw5; clear hrw5
  have lt_im2 := Lib.hid R_im2_w5.out.lts
  go_wp2_with fail
  refine (eqSS_same v_im2 v_sp n F X_im2 X_sp _ _ _ R_im2_w5.out R_sp_w5.out (by omega) (by omega)).mono ?_
  rintro e w6 ⟨rfl, hbw6⟩
  have hzw6 : w5.heap.size ≤ w6.heap.size := hbw6.size
  have R_sp_w6 := Lib.hid (R_sp_w5.out.below hbw6)
  clear R_sp_w5
  have R_im_w6 := Lib.hid (R_im_w5.out.below hbw6)
  clear R_im_w5
  have R_im2_w6 := Lib.hid (R_im2_w5.out.below hbw6)
  clear R_im2_w5
  have HBw6 : Hid (Below w.heap.size w w6) := Lib.hid (HBw5.out.trans (hbw6.mono HBw5.out.size))
  have hww6 := HBw6.out.size
  clear hbw6 HBw5
  go_wp2_with fail
  refine (heldSS_any v_im n F X_im _ 1 _ R_im_w6.out (by omega) (by omega) (by omega) (by omega)).mono ?_
  rintro e wx2 ⟨rfl, rfl⟩
  go_wp2
  go_ret
  exact ⟨rfl, HBw6.out⟩
theorem key_CountPermuting (q : Int) (k : Int) : ∃ (r : Int) (o : Bool), (∀ (w : World), Calls Try.prog 24 #[.int .i64 q, .int .i64 k] w fun e w' => e = .returned (.tuple #[.int .i64 r, .bool o]) ∧ Below w.heap.size w w') ∧
      (∀ (w : World), Calls Try.prog 25 #[.int .i64 q, .int .i64 k] w fun e w' => e = .returned (.tuple #[.int .i64 r, .bool o]) ∧ Below w.heap.size w w') := by
  cases h : askd q k with
  | false => exact ⟨0, false, fun w => spec_CountPermuting_no q k w h, fun w => impl_CountPermuting_no q k w h⟩
  | true =>
    obtain ⟨m, d, rfl, rfl, hs, h7, hd, hdm⟩ := askd_nat h
    exact ⟨_, true, fun w => spec_CountPermuting_yes m d w hs h7 hd hdm, fun w => impl_CountPermuting_yes m d w hs h7 hd hdm⟩
set_option maxRecDepth 100000 in
set_option maxHeartbeats 4000000 in
/-- laws.FnExactCountPermuting. -/
theorem walk_FnExactCountPermuting (q : Int) (k : Int) (_h_q : (Lit.int .i64 q).wf = true) (_h_k : (Lit.int .i64 k).wf = true) (w : World) :
    Calls Try.prog 6 #[.int .i64 q, .int .i64 k] w fun e w' => e = .returned (.bool true) ∧ Below w.heap.size w w' := by
  clear _h_q
  clear _h_k
  obtain ⟨r, o, k1, k2⟩ := key_CountPermuting q k
  have K1 := Lib.hid k1; clear k1
  have K2 := Lib.hid k2; clear k2
  have HB0 : Hid (Below w.heap.size w w) := Lib.hid (Below.refl _ _)
  go_enter Try.func6, Try.ntmps6
  go_wp2_with fail
  refine (K1.out _ ).mono ?_
  rintro e w1 ⟨rfl, hbw1⟩
  have hzw1 : w.heap.size ≤ w1.heap.size := hbw1.size
  have HBw1 : Hid (Below w.heap.size w w1) := Lib.hid (HB0.out.trans (hbw1.mono HB0.out.size))
  have hww1 := HBw1.out.size
  clear hbw1 HB0
  go_wp2_with fail
  refine (K2.out _ ).mono ?_
  rintro e w2 ⟨rfl, hbw2⟩
  have hzw2 : w1.heap.size ≤ w2.heap.size := hbw2.size
  have HBw2 : Hid (Below w.heap.size w w2) := Lib.hid (HBw1.out.trans (hbw2.mono HBw1.out.size))
  have hww2 := HBw2.out.size
  clear hbw2 HBw1
  go_wp2
  go_ret
  exact ⟨rfl, HBw2.out⟩
end Go.Proofs.Ytnmdcmbcackchab
