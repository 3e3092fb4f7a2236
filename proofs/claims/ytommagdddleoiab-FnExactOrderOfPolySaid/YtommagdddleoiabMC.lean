/- CyclesOfPoly, of both, by contracts; the walk of its law. -/
import Derived.Test.YtommagdddleoiabMB
import Derived.Test.YtommagdddleoiabLS
namespace Go.Proofs.Ytommagdddleoiab
open Go.RowKit Go.Maps
theorem RS.lts {w : World} {B n : Nat} {v : Value} {F : Nat → List Int} {X : Nat → Value} (h : RS w B v n F X) : (∀ g, v.ownBlock = some g → B ≤ g ∧ g < w.heap.size) ∧ ∀ i, i < n → ∀ g, (X i).ownBlock = some g → B ≤ g ∧ g < w.heap.size :=
  ⟨h.lt, fun i hi g hg => (h.inner i hi).lt g hg⟩
theorem CY_len (t : Nat → Int) (m : Nat) : (CY t m).length ≤ m := cyc_len (t := nt t) m m (allS m)
theorem CY_tot {t : Nat → Int} {m : Nat} (ht : ∀ i, i < m → El (m : Int) (t i)) : tot (CY t m) ≤ m := by
  have hnt : ∀ x, x < m → nt t x < m := fun x hx => by
    have h1 := (ht x hx).1
    have h2 := (ht x hx).2
    unfold nt
    omega
  exact Nat.le_trans (cyc_tot hnt m (allS m)) (cnS_le _ _)
set_option maxHeartbeats 2000000 in
theorem spec_CyclesOfPoly_yes (m : Nat) (v : Value) (l : List Int) (w : World) (hv : Sl w v l) (hpr : prm (m : Int) l = true) :
    Calls Try.prog 19 #[.int .i64 m, v] w fun e w' => ∃ v' X, e = .returned (.tuple #[v', .bool true]) ∧ RS w' w.heap.size v' (CY (tabF (m : Int) (fun i => l.getD i 0) l.length) m).length (FL (CY (tabF (m : Int) (fun i => l.getD i 0) l.length) m)) X ∧ Below w.heap.size w w' := by
  obtain ⟨h, hg, hdis⟩ := prm_nat hpr
  have hq := isSz_le (m : Int) h
  have HTE := fun i (hi : i < m) => tab_el (k := l.length) h (all_el h (good_parts hg).2) i hi
  have HP := Lib.hid (pePermutes_yes m v l w hv hpr)
  have HC := Lib.hid (fun v' w' (hs : Sl w' v' (fl (tabF (m : Int) (fun i => l.getD i 0) l.length) m)) => peCycles_any m v' (tabF (m : Int) (fun i => l.getD i 0) l.length) w' (by omega) (by omega) hs (fun i hi => ⟨(HTE i hi).1, (HTE i hi).2⟩))
  clear hg h hpr hv hdis HTE
  generalize CY (tabF (m : Int) (fun i => l.getD i 0) l.length) m = L at *
  generalize (tabF (m : Int) (fun i => l.getD i 0) l.length) = t at *
  go_enter Try.func19, Try.ntmps19
  go_wp2_with fail
  refine HP.out.mono ?_
  rintro e w1 ⟨v1, rfl, hr1, hb1⟩
  have HR1 := Lib.hid hr1; clear hr1
  have HB1 := Lib.hid hb1; clear hb1
  go_wp2_with fail
  refine (HC.out _ _ HR1.out.sl).mono ?_
  rintro e w2 ⟨v2, X2, rfl, hr2, hb2⟩
  have HR2 := Lib.hid hr2; clear hr2
  have HB2 := Lib.hid hb2; clear hb2
  go_wp2
  go_ret2
  exact ⟨_, X2, rfl, HR2.out.mono HB1.out.size, HB1.out.trans (HB2.out.mono HB1.out.size)⟩
set_option maxHeartbeats 2000000 in
theorem impl_CyclesOfPoly_yes (m : Nat) (v : Value) (l : List Int) (w : World) (hv : Sl w v l) (hpr : prm (m : Int) l = true) :
    Calls Try.prog 20 #[.int .i64 m, v] w fun e w' => ∃ v' X, e = .returned (.tuple #[v', .bool true]) ∧ RS w' w.heap.size v' (CY (tabF (m : Int) (fun i => l.getD i 0) l.length) m).length (FL (CY (tabF (m : Int) (fun i => l.getD i 0) l.length) m)) X ∧ Below w.heap.size w w' := by
  obtain ⟨h, hg, hdis⟩ := prm_nat hpr
  have hq := isSz_le (m : Int) h
  have hlen := (good_parts hg).1
  have hf := all_el h (good_parts hg).2
  have HP := Lib.hid (vpm_yes m v l w h hv hg hdis)
  have HCE := Lib.hid (fun g w' (hg : g < w'.heap.size) (he : Els w' g (m : Int) (fun i => l.getD i 0) l.length) => cyclesE m g l.length l.length (fun i => l.getD i 0) w' h hg he hf (by omega))
  clear hv hpr h hg hdis hf
  generalize CY (tabF (m : Int) (fun i => l.getD i 0) l.length) m = L at *
  generalize (fun i => l.getD i 0) = f at *
  generalize l.length = n at *
  go_enter Try.func20, Try.ntmps20
  go_wp2_with fail
  refine HP.out.mono ?_
  rintro e w1 ⟨g1, rfl, hgg1, hgl1, he1, hb1⟩
  have HE1 := Lib.hid he1; clear he1
  have hz_hb1 := hb1.size; (try simp at hz_hb1)
  have HB1 := Lib.hid hb1; clear hb1
  go_wp2_with fail
  refine (HCE.out g1 _ (by simp; omega) (HE1.out.below (B := w1.heap.size) (by (repeat' (first | (with_reducible assumption) | (with_reducible exact Below.refl _ _) | (with_reducible refine below_drewN ?_ _) | (with_reducible refine Below.drew ?_) | (with_reducible refine Below.alloc ?_ ?_ _) | (with_reducible refine Below.setCell ?_ ?_ _) | (with_reducible refine Below.trans ?_ (Below.mono (by assumption) ?_)) | (with_reducible exact Nat.le_refl _) | (with_reducible assumption) | omega | (simp; omega) | (simp; done)))) hgl1)).mono ?_
  rintro e w2 ⟨v2, X2, rfl, hr2, hb2⟩
  have hz_hb2 := hb2.size; (try simp at hz_hb2)
  have HR2 := Lib.hid hr2; clear hr2
  have HB2 := Lib.hid hb2; clear hb2
  go_wp2
  go_ret2
  have hb1 := HB1.out
  have hb2 := HB2.out
  exact ⟨_, X2, rfl, HR2.out.mono (by simp; omega), by (repeat' (first | (with_reducible assumption) | (with_reducible exact Below.refl _ _) | (with_reducible refine below_drewN ?_ _) | (with_reducible refine Below.drew ?_) | (with_reducible refine Below.alloc ?_ ?_ _) | (with_reducible refine Below.setCell ?_ ?_ _) | (with_reducible refine Below.trans ?_ (Below.mono (by assumption) ?_)) | (with_reducible exact Nat.le_refl _) | (with_reducible assumption) | omega | (simp; omega) | (simp; done)))⟩

theorem spec_CyclesOfPoly_no (q : Int) (v : Value) (l : List Int) (w : World) (hv : Sl w v l) (hl : l.length ≤ 1048576) (hg : prm q l = false) :
    Calls Try.prog 19 #[.int .i64 q, v] w fun e w' => e = .returned (.tuple #[.slice none 0 0, .bool false]) ∧ Below w.heap.size w w' := by
  have HP := Lib.hid (pePermutes_no q v l w hv hl hg)
  clear hg hv hl
  go_enter Try.func19, Try.ntmps19
  go_wp2_with fail
  refine HP.out.mono ?_
  rintro e w1 ⟨v1, rfl, hb1⟩
  go_wp2
  go_ret2
  exact ⟨rfl, hb1⟩
theorem impl_CyclesOfPoly_no (q : Int) (v : Value) (l : List Int) (w : World) (hv : Sl w v l) (hl : l.length ≤ 1048576) (hg : prm q l = false) :
    Calls Try.prog 20 #[.int .i64 q, v] w fun e w' => e = .returned (.tuple #[.slice none 0 0, .bool false]) ∧ Below w.heap.size w w' := by
  have HP := Lib.hid (vpm_no q v l w hv hl hg)
  clear hg hv hl
  go_enter Try.func20, Try.ntmps20
  go_wp2_with fail
  refine HP.out.mono ?_
  rintro e w1 ⟨rfl, hb1⟩
  have hz_hb1 := hb1.size; (try simp at hz_hb1)
  have HB1 := Lib.hid hb1; clear hb1
  go_wp2_with fail
  go_ret2
  have hb1 := HB1.out
  exact ⟨rfl, by (repeat' (first | (with_reducible assumption) | (with_reducible exact Below.refl _ _) | (with_reducible refine below_drewN ?_ _) | (with_reducible refine Below.drew ?_) | (with_reducible refine Below.alloc ?_ ?_ _) | (with_reducible refine Below.setCell ?_ ?_ _) | (with_reducible refine Below.trans ?_ (Below.mono (by assumption) ?_)) | (with_reducible exact Nat.le_refl _) | (with_reducible assumption) | omega | (simp; omega) | (simp; done)))⟩
theorem key_CyclesOfPoly (q : Int) (l_f : List Int) (b_f : l_f.length ≤ 1048576) : ∃ (n : Nat) (F : Nat → List Int) (o : Bool), n ≤ 1048576 ∧ ofs F n ≤ 900 ∧ (∀ (w : World) (v_f : Value) (_ : Sl w v_f l_f), Calls Try.prog 19 #[.int .i64 q, v_f] w fun e w' => ∃ v X, e = .returned (.tuple #[v, .bool o]) ∧ RS w' w.heap.size v n F X ∧ Below w.heap.size w w') ∧
      (∀ (w : World) (v_f : Value) (_ : Sl w v_f l_f), Calls Try.prog 20 #[.int .i64 q, v_f] w fun e w' => ∃ v X, e = .returned (.tuple #[v, .bool o]) ∧ RS w' w.heap.size v n F X ∧ Below w.heap.size w w') := by
  cases h : prm q l_f with
  | false => exact ⟨0, fun _ => [], false, by omega, by simp [ofs], fun w v hv => (spec_CyclesOfPoly_no q v l_f w hv b_f h).mono fun _ _ ⟨he, hb⟩ => ⟨_, fun _ => .slice none 0 0, he, RS.nil _ _ _ _, hb⟩, fun w v hv => (impl_CyclesOfPoly_no q v l_f w hv b_f h).mono fun _ _ ⟨he, hb⟩ => ⟨_, fun _ => .slice none 0 0, he, RS.nil _ _ _ _, hb⟩⟩
  | true =>
    obtain ⟨m, rfl⟩ := prm_size h
    obtain ⟨hs, hg, _⟩ := prm_nat h
    have hq := isSz_le _ hs
    have h1 := CY_len (tabF (m : Int) (fun i => l_f.getD i 0) l_f.length) m
    have h2 := CY_tot (t := (tabF (m : Int) (fun i => l_f.getD i 0) l_f.length)) (fun i hi => tab_el (k := l_f.length) hs (all_el hs (good_parts hg).2) i hi)
    have h3 := ofs_FL (CY (tabF (m : Int) (fun i => l_f.getD i 0) l_f.length) m)
    exact ⟨_, _, true, by omega, by omega, fun w v hv => spec_CyclesOfPoly_yes m v l_f w hv h, fun w v hv => impl_CyclesOfPoly_yes m v l_f w hv h⟩
set_option maxRecDepth 100000 in
set_option maxHeartbeats 4000000 in
/-- laws.FnExactCyclesOfPoly. -/
theorem walk_FnExactCyclesOfPoly (q : Int) (a_f : Option Addr) (n_f c_f : Nat) (z_f : List Int) (w : World) (_h_q : (Lit.int .i64 q).wf = true) (h_f : IsRow .i64 w a_f n_f c_f z_f) :
    Calls Try.prog 5 #[.int .i64 q, .slice a_f n_f c_f] w fun e w' => e = .returned (.bool true) ∧ Below w.heap.size w w' := by
  clear _h_q
  obtain ⟨hs_f, hl_f, _⟩ := h_f.sl
  generalize z_f.take n_f = l_f at *
  clear h_f
  subst hl_f
  by_cases b_f : l_f.length ≤ 1048576
  rotate_left
  · have hn_f : (1048576 : Int) < (l_f.length : Int) := by omega
    go_enter Try.func5, Try.ntmps5
    go_wp2
    go_ret
    exact ⟨rfl, Below.refl _ _⟩
  have hn_f : ¬ (1048576 : Int) < (l_f.length : Int) := by omega
  obtain ⟨n, F, o, hn, hl, k1, k2⟩ := key_CyclesOfPoly q l_f b_f
  have K1 := Lib.hid k1; clear k1
  have K2 := Lib.hid k2; clear k2
  have HS_f := Lib.hid hs_f; clear hs_f
  have HB0 : Hid (Below w.heap.size w w) := Lib.hid (Below.refl _ _)
  go_enter Try.func5, Try.ntmps5
  go_wp2_with fail
  refine (toIntS_any _ l_f _ (HS_f.out.below HB0.out (Nat.le_refl _)) b_f).mono ?_
  rintro e w1 ⟨v_s_f, rfl, hrw1, hbw1⟩
  have hzw1 : w.heap.size ≤ w1.heap.size := hbw1.size
  have HBw1 : Hid (Below w.heap.size w w1) := Lib.hid (HB0.out.trans (hbw1.mono HB0.out.size))
  have hww1 := HBw1.out.size
  clear hbw1 HB0
  have R_s_f_w1 := Lib.hid hrw1; clear hrw1
  have lt_s_f : Hid (∀ g, v_s_f.ownBlock = some g → w.heap.size ≤ g ∧ g < w1.heap.size) := Lib.hid R_s_f_w1.out.lt
  go_wp2_with fail
  refine (K1.out _ v_s_f R_s_f_w1.out.sl).mono ?_
  rintro e w2 ⟨v_sp, X_sp, rfl, hrw2, hbw2⟩
  have hzw2 : w1.heap.size ≤ w2.heap.size := hbw2.size
  have R_s_f_w2 := Lib.hid (R_s_f_w1.out.below hbw2)
  clear R_s_f_w1
  have HBw2 : Hid (Below w.heap.size w w2) := Lib.hid (HBw1.out.trans (hbw2.mono HBw1.out.size))
  have hww2 := HBw2.out.size
  clear hbw2 HBw1
  have R_sp_w2 := Lib.hid hrw2; clear hrw2
  have lt_sp := Lib.hid R_sp_w2.out.lts
  clear R_s_f_w2 lt_s_f
  go_wp2_with fail
  refine (toIntS_any _ l_f _ (HS_f.out.below HBw2.out (Nat.le_refl _)) b_f).mono ?_
  rintro e w3 ⟨v_x_f, rfl, hrw3, hbw3⟩
  have hzw3 : w2.heap.size ≤ w3.heap.size := hbw3.size
  have R_sp_w3 := Lib.hid (R_sp_w2.out.below hbw3)
  clear R_sp_w2
  have HBw3 : Hid (Below w.heap.size w w3) := Lib.hid (HBw2.out.trans (hbw3.mono HBw2.out.size))
  have hww3 := HBw3.out.size
  clear hbw3 HBw2
  have R_x_f_w3 := Lib.hid hrw3; clear hrw3
  have lt_x_f : Hid (∀ g, v_x_f.ownBlock = some g → w2.heap.size ≤ g ∧ g < w3.heap.size) := Lib.hid R_x_f_w3.out.lt
  go_wp2_with fail
  refine (K2.out _ v_x_f R_x_f_w3.out.sl).mono ?_
  rintro e w4 ⟨v_im, X_im, rfl, hrw4, hbw4⟩
  have hzw4 : w3.heap.size ≤ w4.heap.size := hbw4.size
  have R_sp_w4 := Lib.hid (R_sp_w3.out.below hbw4)
  clear R_sp_w3
  have R_x_f_w4 := Lib.hid (R_x_f_w3.out.below hbw4)
  clear R_x_f_w3
  have HBw4 : Hid (Below w.heap.size w w4) := Lib.hid (HBw3.out.trans (hbw4.mono HBw3.out.size))
  have hww4 := HBw4.out.size
  clear hbw4 HBw3
  have R_im_w4 := Lib.hid hrw4; clear hrw4
  have lt_im := Lib.hid R_im_w4.out.lts
  go_wp2_with fail
  refine (eqSS_same v_im v_sp n F X_im X_sp _ _ _ R_im_w4.out R_sp_w4.out (by omega) (by omega)).mono ?_
  rintro e w5 ⟨rfl, hbw5⟩
  have hzw5 : w4.heap.size ≤ w5.heap.size := hbw5.size
  have R_sp_w5 := Lib.hid (R_sp_w4.out.below hbw5)
  clear R_sp_w4
  have R_x_f_w5 := Lib.hid (R_x_f_w4.out.below hbw5)
  clear R_x_f_w4
  have R_im_w5 := Lib.hid (R_im_w4.out.below hbw5)
  clear R_im_w4
  have HBw5 : Hid (Below w.heap.size w w5) := Lib.hid (HBw4.out.trans (hbw5.mono HBw4.out.size))
  have hww5 := HBw5.out.size
  clear hbw5 HBw4
  go_wp2_with fail
  refine (toIntS_any _ l_f _ (HS_f.out.below HBw5.out (Nat.le_refl _)) b_f).mono ?_
  rintro e w6 ⟨v_y_f, rfl, hrw6, hbw6⟩
  have hzw6 : w5.heap.size ≤ w6.heap.size := hbw6.size
  have R_sp_w6 := Lib.hid (R_sp_w5.out.below hbw6)
  clear R_sp_w5
  have R_x_f_w6 := Lib.hid (R_x_f_w5.out.below hbw6)
  clear R_x_f_w5
  have R_im_w6 := Lib.hid (R_im_w5.out.below hbw6)
  clear R_im_w5
  have HBw6 : Hid (Below w.heap.size w w6) := Lib.hid (HBw5.out.trans (hbw6.mono HBw5.out.size))
  have hww6 := HBw6.out.size
  clear hbw6 HBw5
  have R_y_f_w6 := Lib.hid hrw6; clear hrw6
  have lt_y_f : Hid (∀ g, v_y_f.ownBlock = some g → w5.heap.size ≤ g ∧ g < w6.heap.size) := Lib.hid R_y_f_w6.out.lt
  go_wp2_with fail
  refine (eq_same v_x_f v_y_f l_f _ _ _ R_x_f_w6.out R_y_f_w6.out (by omega)).mono ?_
  rintro e w7 ⟨rfl, hbw7⟩
  have hzw7 : w6.heap.size ≤ w7.heap.size := hbw7.size
  have R_sp_w7 := Lib.hid (R_sp_w6.out.below hbw7)
  clear R_sp_w6
  have R_x_f_w7 := Lib.hid (R_x_f_w6.out.below hbw7)
  clear R_x_f_w6
  have R_im_w7 := Lib.hid (R_im_w6.out.below hbw7)
  clear R_im_w6
  have R_y_f_w7 := Lib.hid (R_y_f_w6.out.below hbw7)
  clear R_y_f_w6
  have HBw7 : Hid (Below w.heap.size w w7) := Lib.hid (HBw6.out.trans (hbw7.mono HBw6.out.size))
  have hww7 := HBw7.out.size
  clear hbw7 HBw6
  clear R_y_f_w7 lt_y_f
  go_wp2_with fail
  refine (mark_any v_x_f l_f _ (1) _ R_x_f_w7.out (by omega) (by omega) (by omega)).mono ?_
  rintro e w8 ⟨rfl, hrw8, hgw8⟩
  have hzw8 : w7.heap.size ≤ w8.heap.size := hgw8.size
  have R_sp_w8 := Lib.hid (R_sp_w7.out.keep (w' := w8) (fun g hg => hgw8.block g (R_sp_w7.out.lt g hg).2 fun e => by have h1 := lt_sp.out.1 g hg; have h2 := lt_x_f.out g e.symm; omega) (fun i hi g hg => hgw8.block g ((R_sp_w7.out.inner i hi).lt g hg).2 fun e => by have h1 := lt_sp.out.2 i hi g hg; have h2 := lt_x_f.out g e.symm; omega))
  clear R_sp_w7
  have R_im_w8 := Lib.hid (R_im_w7.out.keep (w' := w8) (fun g hg => hgw8.block g (R_im_w7.out.lt g hg).2 fun e => by have h1 := lt_im.out.1 g hg; have h2 := lt_x_f.out g e.symm; omega) (fun i hi g hg => hgw8.block g ((R_im_w7.out.inner i hi).lt g hg).2 fun e => by have h1 := lt_im.out.2 i hi g hg; have h2 := lt_x_f.out g e.symm; omega))
  clear R_im_w7
  have HBw8 : Hid (Below w.heap.size w w8) := Lib.hid (Below.grown HBw7.out hgw8 (by omega) (fun g e => by have h2 := lt_x_f.out g e; omega))
  have hww8 := HBw8.out.size
  have R_x_f_w8 := Lib.hid hrw8
  clear hrw8 hgw8 HBw7 R_x_f_w7
  clear R_x_f_w8 lt_x_f
  have hpos : ¬ (1 + (l_f.length : Int)) < (0 : Int) := by omega
  go_wp2_with fail
  refine (eqSS_same v_im v_sp n F X_im X_sp _ _ _ R_im_w8.out R_sp_w8.out (by omega) (by omega)).mono ?_
  rintro e w9 ⟨rfl, hbw9⟩
  have hzw9 : w8.heap.size ≤ w9.heap.size := hbw9.size
  have R_sp_w9 := Lib.hid (R_sp_w8.out.below hbw9)
  clear R_sp_w8
  have R_im_w9 := Lib.hid (R_im_w8.out.below hbw9)
  clear R_im_w8
  have HBw9 : Hid (Below w.heap.size w w9) := Lib.hid (HBw8.out.trans (hbw9.mono HBw8.out.size))
  have hww9 := HBw9.out.size
  clear hbw9 HBw8
  go_wp2_with fail
  refine (markSS_any v_im n F X_im _ 1 _ R_im_w9.out (by omega) (by omega) (by omega) (by omega) (by omega)).mono ?_
  rintro e w10 ⟨rfl, hrw10, hbw10⟩
  have hzw10 : w9.heap.size ≤ w10.heap.size := hbw10.size
  have R_sp_w10 := Lib.hid (R_sp_w9.out.keep (w' := w10) (fun g hg => hbw10.block g (by have h1 := lt_sp.out.1 g hg; omega)) (fun i hi g hg => hbw10.block g (by have h1 := lt_sp.out.2 i hi g hg; omega)))
  clear R_sp_w9
  have HBw10 : Hid (Below w.heap.size w w10) := Lib.hid (HBw9.out.trans (hbw10.mono (by omega)))
  have hww10 := HBw10.out.size
  have R_im_w10 := Lib.hid hrw10
  clear hrw10 hbw10 HBw9 R_im_w9
  go_wp2_with fail
  refine (heldSS_any v_im n F X_im _ 1 _ R_im_w10.out (by omega) (by omega) (by omega) (by omega)).mono ?_
  rintro e wx1 ⟨rfl, rfl⟩
  go_wp2_with fail
  refine (toIntS_any _ l_f _ (HS_f.out.below HBw10.out (Nat.le_refl _)) b_f).mono ?_
  rintro e w11 ⟨v_t_f, rfl, hrw11, hbw11⟩
  have hzw11 : w10.heap.size ≤ w11.heap.size := hbw11.size
  have R_sp_w11 := Lib.hid (R_sp_w10.out.below hbw11)
  clear R_sp_w10
  have R_im_w11 := Lib.hid (R_im_w10.out.below hbw11)
  clear R_im_w10
  have HBw11 : Hid (Below w.heap.size w w11) := Lib.hid (HBw10.out.trans (hbw11.mono HBw10.out.size))
  have hww11 := HBw11.out.size
  clear hbw11 HBw10
  have R_t_f_w11 := Lib.hid hrw11; clear hrw11
  have lt_t_f : Hid (∀ g, v_t_f.ownBlock = some g → w10.heap.size ≤ g ∧ g < w11.heap.size) := Lib.hid R_t_f_w11.out.lt
  go_wp2_with fail
  refine (K2.out _ v_t_f R_t_f_w11.out.sl).mono ?_
  rintro e w12 ⟨v_im2, X_im2, rfl, hrw12, hbw12⟩
  have hzw12 : w11.heap.size ≤ w12.heap.size := hbw12.size
  have R_sp_w12 := Lib.hid (R_sp_w11.out.below hbw12)
  clear R_sp_w11
  have R_im_w12 := Lib.hid (R_im_w11.out.below hbw12)
  clear R_im_w11
  have R_t_f_w12 := Lib.hid (R_t_f_w11.out.below hbw12)
  clear R_t_f_w11
  have HBw12 : Hid (Below w.heap.size w w12) := Lib.hid (HBw11.out.trans (hbw12.mono HBw11.out.size))
  have hww12 := HBw12.out.size
  clear hbw12 HBw11
  have R_im2_w12 := Lib.hid hrw12; clear hrw12
  have lt_im2 := Lib.hid R_im2_w12.out.lts
  clear R_t_f_w12 lt_t_f
  go_wp2_with fail
  refine (eqSS_same v_im2 v_sp n F X_im2 X_sp _ _ _ R_im2_w12.out R_sp_w12.out (by omega) (by omega)).mono ?_
  rintro e w13 ⟨rfl, hbw13⟩
  have hzw13 : w12.heap.size ≤ w13.heap.size := hbw13.size
  have R_sp_w13 := Lib.hid (R_sp_w12.out.below hbw13)
  clear R_sp_w12
  have R_im_w13 := Lib.hid (R_im_w12.out.below hbw13)
  clear R_im_w12
  have R_im2_w13 := Lib.hid (R_im2_w12.out.below hbw13)
  clear R_im2_w12
  have HBw13 : Hid (Below w.heap.size w w13) := Lib.hid (HBw12.out.trans (hbw13.mono HBw12.out.size))
  have hww13 := HBw13.out.size
  clear hbw13 HBw12
  go_wp2_with fail
  refine (heldSS_any v_im n F X_im _ 1 _ R_im_w13.out (by omega) (by omega) (by omega) (by omega)).mono ?_
  rintro e wx2 ⟨rfl, rfl⟩
  go_wp2
  go_ret
  exact ⟨rfl, HBw13.out⟩
end Go.Proofs.Ytommagdddleoiab
