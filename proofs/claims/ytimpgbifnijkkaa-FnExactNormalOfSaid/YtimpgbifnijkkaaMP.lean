/- NormalOf of the program, by contracts; the walk of its law. -/
import Derived.Test.YtimpgbifnijkkaaMA
namespace Go.Proofs.Ytimpgbifnijkkaa
open Go.RowKit
theorem normE (m n g cap : Nat) (f : Nat → Int) (w : World) (h : isSz (m : Int) = true) (hg : g < w.heap.size) (he : Els w g (m : Int) f n) (L : Lead m f n) :
    Calls Try.prog 65 #[polyE (m : Int) (.slice (some ⟨g, 0, none⟩) n cap)] w fun e w' => ∃ g' k cap' f', e = .returned (polyE (m : Int) (.slice (some ⟨g', 0, none⟩) k cap')) ∧ g' < w'.heap.size ∧ Els w' g' (m : Int) f' k ∧ (∀ i, El (m : Int) (f' i)) ∧ k ≤ m ∧ fl f' k = nml m n f ∧ Below w.heap.size w w' := by
  by_cases hd : ((n - 1 : Nat) : Int) % pr m = 0
  · exact normE0 m n g cap f w h hg he L hd
  · exact normE1 m n g cap f w h hg he L hd
theorem spec_NormalOf_yes (m : Nat) (v : Value) (l : List Int) (w : World) (h : isSz (m : Int) = true) (hv : Sl w v l) (hg : good (m : Int) l = true) (h2 : 2 ≤ l.length) :
    Calls Try.prog 27 #[.int .i64 m, v] w fun e w' => ∃ v', e = .returned (.tuple #[v', .bool true]) ∧ Row w' w.heap.size v' (nml m l.length (fun i => l.getD i 0)) ∧ Below w.heap.size w w' := by
  by_cases hd : ((l.length - 1 : Nat) : Int) % pr m = 0
  · exact spec_NormalOf_y0 m v l w h hv hg h2 hd
  · exact spec_NormalOf_y1 m v l w h hv hg h2 hd
theorem impl_NormalOf_yes (m : Nat) (v : Value) (l : List Int) (w : World) (h : isSz (m : Int) = true) (hv : Sl w v l) (hg : good (m : Int) l = true) (h2 : 2 ≤ l.length) :
    Calls Try.prog 28 #[.int .i64 m, v] w fun e w' => ∃ v', e = .returned (.tuple #[v', .bool true]) ∧ Row w' w.heap.size v' (nml m l.length (fun i => l.getD i 0)) ∧ Below w.heap.size w w' := by
  have hq := isSz_le (m : Int) h
  have hlen := (good_parts hg).1
  have L := good_lead h hg h2
  have HP := Lib.hid (validPoly_yes (m : Int) v l w h hv hg)
  have HD := Lib.hid (fun g w => degreeE (m : Int) g l.length l.length w (by omega))
  have HIP := Lib.hid (fun g w' (hg : g < w'.heap.size) (he : Els w' g (m : Int) (fun i => l.getD i 0) l.length) => normE m l.length g l.length (fun i => l.getD i 0) w' h hg he L)
  have HN := Lib.hid (fun v f k w' (hs : Se w' v (m : Int) f k) (hf : ∀ i, El (m : Int) (f i)) (hk : k ≤ m) => numbersE (m : Int) v f k w' h hs (fun i _ => hf i) (by omega))
  clear hv h hg L
  generalize nml m l.length (fun i => l.getD i 0) = r at *
  generalize (fun i => l.getD i 0) = f at *
  generalize l.length = n at *
  have hn1 : (1 : Int) ≤ (n : Int) - 1 := by omega
  go_enter Try.func28, Try.ntmps28
  go_wp2_with fail
  refine HP.out.mono ?_
  rintro e w1 ⟨g1, rfl, hgg1, hk1, he1, hb1⟩
  have hgl1 := hk1.lt
  have HE1 := Lib.hid he1; clear he1 hk1
  have hz_hb1 := hb1.size; (try simp at hz_hb1)
  have HB1 := Lib.hid hb1; clear hb1
  go_wp2_with fail
  refine (HD.out g1 _).mono ?_
  rintro e w2 ⟨rfl, hb2⟩
  obtain ⟨hc2, hf2⟩ := bcell hb2; have hz2 := hb2.size; (try simp at hz2); have HB2 := Lib.hid hb2; clear hb2
  have l2 : w1.heap.size < w2.heap.size := by omega
  go_wp2_with fail
  refine (HIP.out g1 _ (by omega) (HE1.out.below (B := w1.heap.size) (by have hb2 := HB2.out; (repeat' (first | (with_reducible assumption) | (with_reducible exact Below.refl _ _) | (with_reducible refine below_drewN ?_ _) | (with_reducible refine Below.drew ?_) | (with_reducible refine Below.alloc ?_ ?_ _) | (with_reducible refine Below.setCell ?_ ?_ _) | (with_reducible refine Below.trans ?_ (Below.mono (by assumption) ?_)) | (with_reducible exact Nat.le_refl _) | (with_reducible assumption) | omega | (simp; omega) | (simp; done)))) hgl1)).mono ?_
  rintro e w3 ⟨g3, k3, cp3, f3, rfl, hg3, he3, hf3, hk3, hfl3, hb3⟩
  have hz_hb3 := hb3.size; (try simp at hz_hb3)
  have HE3 := Lib.hid he3; clear he3
  have HF3 := Lib.hid hf3; clear hf3
  have HB3 := Lib.hid hb3; clear hb3
  go_wp2_with fail
  refine (HN.out _ _ _ _ ⟨g3, _, rfl, hg3, HE3.out⟩ HF3.out hk3).mono ?_
  rintro e w4 ⟨v4, rfl, hr4, hb4⟩
  have HR4 := Lib.hid hr4; clear hr4
  have HB4 := Lib.hid hb4; clear hb4
  go_wp2
  go_ret2
  have hb1 := HB1.out
  have hb2 := HB2.out
  have hb3 := HB3.out
  have hb4 := HB4.out
  exact ⟨_, rfl, by rw [← hfl3]; exact HR4.out.mono (by omega), by (repeat' (first | (with_reducible assumption) | (with_reducible exact Below.refl _ _) | (with_reducible refine below_drewN ?_ _) | (with_reducible refine Below.drew ?_) | (with_reducible refine Below.alloc ?_ ?_ _) | (with_reducible refine Below.setCell ?_ ?_ _) | (with_reducible refine Below.trans ?_ (Below.mono (by assumption) ?_)) | (with_reducible exact Nat.le_refl _) | (with_reducible assumption) | omega | (simp; omega) | (simp; done)))⟩
theorem impl_NormalOf_no2 (m : Nat) (v : Value) (l : List Int) (w : World) (h : isSz (m : Int) = true) (hv : Sl w v l) (hg : good (m : Int) l = true) (h2 : ¬ 2 ≤ l.length) :
    Calls Try.prog 28 #[.int .i64 m, v] w fun e w' => e = .returned (.tuple #[.slice none 0 0, .bool false]) ∧ Below w.heap.size w w' := by
  have hq := isSz_le (m : Int) h
  have HP := Lib.hid (validPoly_yes (m : Int) v l w h hv hg)
  have HD := Lib.hid (fun g w => degreeE (m : Int) g l.length l.length w (by omega))
  clear hv h hg
  generalize (fun i => l.getD i 0) = f at *
  generalize l.length = n at *
  have hn1 : (n : Int) - 1 < 1 := by omega
  go_enter Try.func28, Try.ntmps28
  go_wp2_with fail
  refine HP.out.mono ?_
  rintro e w1 ⟨g1, rfl, hgg1, hk1, he1, hb1⟩
  clear he1 hk1
  have hz_hb1 := hb1.size; (try simp at hz_hb1)
  have HB1 := Lib.hid hb1; clear hb1
  go_wp2_with fail
  refine (HD.out g1 _).mono ?_
  rintro e w2 ⟨rfl, hb2⟩
  obtain ⟨hc2, hf2⟩ := bcell hb2; have hz2 := hb2.size; (try simp at hz2); have HB2 := Lib.hid hb2; clear hb2
  have l2 : w1.heap.size < w2.heap.size := by omega
  go_wp2
  go_ret2
  have hb1 := HB1.out
  have hb2 := HB2.out
  exact ⟨rfl, by (repeat' (first | (with_reducible assumption) | (with_reducible exact Below.refl _ _) | (with_reducible refine below_drewN ?_ _) | (with_reducible refine Below.drew ?_) | (with_reducible refine Below.alloc ?_ ?_ _) | (with_reducible refine Below.setCell ?_ ?_ _) | (with_reducible refine Below.trans ?_ (Below.mono (by assumption) ?_)) | (with_reducible exact Nat.le_refl _) | (with_reducible assumption) | omega | (simp; omega) | (simp; done)))⟩
theorem impl_NormalOf_no (q : Int) (v : Value) (l : List Int) (w : World) (hv : Sl w v l) (hl : l.length ≤ 1048576) (hn : nmlOK q l = false) :
    Calls Try.prog 28 #[.int .i64 q, v] w fun e w' => e = .returned (.tuple #[.slice none 0 0, .bool false]) ∧ Below w.heap.size w w' := by
  cases hg : isSz q && good q l with
  | false => exact impl_NormalOf_no1 q v l w hv hl hg
  | true =>
    unfold nmlOK at hn
    rw [hg] at hn
    simp only [Bool.and_eq_true] at hg
    have hq := isSz_le q hg.1
    obtain ⟨m, rfl⟩ := Int.eq_ofNat_of_zero_le (show 0 ≤ q by omega)
    exact impl_NormalOf_no2 m v l w hg.1 hv hg.2 (by simpa using hn)
theorem key_NormalOf (q : Int) (l_f : List Int) (b_f : l_f.length ≤ 1048576) : ∃ (r : List Int) (o : Bool), r.length ≤ 1048576 ∧ (∀ (w : World) (v_f : Value) (_ : Sl w v_f l_f), Calls Try.prog 27 #[.int .i64 q, v_f] w fun e w' => ∃ v, e = .returned (.tuple #[v, .bool o]) ∧ Row w' w.heap.size v r ∧ Below w.heap.size w w') ∧
      (∀ (w : World) (v_f : Value) (_ : Sl w v_f l_f), Calls Try.prog 28 #[.int .i64 q, v_f] w fun e w' => ∃ v, e = .returned (.tuple #[v, .bool o]) ∧ Row w' w.heap.size v r ∧ Below w.heap.size w w') := by
  cases h : nmlOK q l_f with
  | false => exact ⟨[], false, by simp, fun w v hv => (spec_NormalOf_no q v l_f w hv b_f h).mono fun _ _ ⟨he, hb⟩ => ⟨_, he, Row.nil _ _, hb⟩, fun w v hv => (impl_NormalOf_no q v l_f w hv b_f h).mono fun _ _ ⟨he, hb⟩ => ⟨_, he, Row.nil _ _, hb⟩⟩
  | true =>
    unfold nmlOK at h
    simp only [Bool.and_eq_true, decide_eq_true_eq] at h
    obtain ⟨⟨h0, hg⟩, h2⟩ := h
    have hq := isSz_le q h0
    obtain ⟨m, rfl⟩ := Int.eq_ofNat_of_zero_le (show 0 ≤ q by omega)
    have hlen := nml_len h0 (good_lead h0 hg h2)
    exact ⟨_, true, by omega, fun w v hv => spec_NormalOf_yes m v l_f w h0 hv hg h2, fun w v hv => impl_NormalOf_yes m v l_f w h0 hv hg h2⟩
set_option maxRecDepth 100000 in
set_option maxHeartbeats 4000000 in
/-- laws.FnExactNormalOf. -/
theorem walk_FnExactNormalOf (q : Int) (a_f : Option Addr) (n_f c_f : Nat) (z_f : List Int) (w : World) (_h_q : (Lit.int .i64 q).wf = true) (h_f : IsRow .i64 w a_f n_f c_f z_f) :
    Calls Try.prog 8 #[.int .i64 q, .slice a_f n_f c_f] w fun e w' => e = .returned (.bool true) ∧ Below w.heap.size w w' := by
  clear _h_q
  obtain ⟨hs_f, hl_f, _⟩ := h_f.sl
  generalize z_f.take n_f = l_f at *
  clear h_f
  subst hl_f
  by_cases b_f : l_f.length ≤ 1048576
  rotate_left
  · have hn_f : (1048576 : Int) < (l_f.length : Int) := by omega
    go_enter Try.func8, Try.ntmps8
    go_wp2
    go_ret
    exact ⟨rfl, Below.refl _ _⟩
  have hn_f : ¬ (1048576 : Int) < (l_f.length : Int) := by omega
  obtain ⟨r, o, hr, k1, k2⟩ := key_NormalOf q l_f b_f
  have K1 := Lib.hid k1; clear k1
  have K2 := Lib.hid k2; clear k2
  have HS_f := Lib.hid hs_f; clear hs_f
  have HB0 : Hid (Below w.heap.size w w) := Lib.hid (Below.refl _ _)
  go_enter Try.func8, Try.ntmps8
  go_wp2_with fail
  refine (toIntS_any _ l_f _ (HS_f.out.below HB0.out (Nat.le_refl _)) b_f).mono ?_
  rintro e w1 ⟨v_s_f, rfl, hrw1, hbw1⟩
  have hzw1 : w.heap.size ≤ w1.heap.size := hbw1.size
  have HBw1 : Hid (Below w.heap.size w w1) := Lib.hid (HB0.out.trans (hbw1.mono HB0.out.size))
  have hww1 := HBw1.out.size
  clear hbw1 HB0
  have R_s_f_w1 := Lib.hid hrw1; clear hrw1
  have lt_s_f : Hid (∀ g, v_s_f.ownBlock = some g → w.heap.size ≤ g ∧ g < w1.heap.size) := Lib.hid R_s_f_w1.out.lt
  go_wp2_with fail
  refine (K1.out _ v_s_f R_s_f_w1.out.sl).mono ?_
  rintro e w2 ⟨v_sp, rfl, hrw2, hbw2⟩
  have hzw2 : w1.heap.size ≤ w2.heap.size := hbw2.size
  have R_s_f_w2 := Lib.hid (R_s_f_w1.out.below hbw2)
  clear R_s_f_w1
  have HBw2 : Hid (Below w.heap.size w w2) := Lib.hid (HBw1.out.trans (hbw2.mono HBw1.out.size))
  have hww2 := HBw2.out.size
  clear hbw2 HBw1
  have R_sp_w2 := Lib.hid hrw2; clear hrw2
  have lt_sp : Hid (∀ g, v_sp.ownBlock = some g → w1.heap.size ≤ g ∧ g < w2.heap.size) := Lib.hid R_sp_w2.out.lt
  clear R_s_f_w2 lt_s_f
  go_wp2_with fail
  refine (toIntS_any _ l_f _ (HS_f.out.below HBw2.out (Nat.le_refl _)) b_f).mono ?_
  rintro e w3 ⟨v_x_f, rfl, hrw3, hbw3⟩
  have hzw3 : w2.heap.size ≤ w3.heap.size := hbw3.size
  have R_sp_w3 := Lib.hid (R_sp_w2.out.below hbw3)
  clear R_sp_w2
  have HBw3 : Hid (Below w.heap.size w w3) := Lib.hid (HBw2.out.trans (hbw3.mono HBw2.out.size))
  have hww3 := HBw3.out.size
  clear hbw3 HBw2
  have R_x_f_w3 := Lib.hid hrw3; clear hrw3
  have lt_x_f : Hid (∀ g, v_x_f.ownBlock = some g → w2.heap.size ≤ g ∧ g < w3.heap.size) := Lib.hid R_x_f_w3.out.lt
  go_wp2_with fail
  refine (K2.out _ v_x_f R_x_f_w3.out.sl).mono ?_
  rintro e w4 ⟨v_im, rfl, hrw4, hbw4⟩
  have hzw4 : w3.heap.size ≤ w4.heap.size := hbw4.size
  have R_sp_w4 := Lib.hid (R_sp_w3.out.below hbw4)
  clear R_sp_w3
  have R_x_f_w4 := Lib.hid (R_x_f_w3.out.below hbw4)
  clear R_x_f_w3
  have HBw4 : Hid (Below w.heap.size w w4) := Lib.hid (HBw3.out.trans (hbw4.mono HBw3.out.size))
  have hww4 := HBw4.out.size
  clear hbw4 HBw3
  have R_im_w4 := Lib.hid hrw4; clear hrw4
  have lt_im : Hid (∀ g, v_im.ownBlock = some g → w3.heap.size ≤ g ∧ g < w4.heap.size) := Lib.hid R_im_w4.out.lt
  go_wp2_with fail
  refine (eq_same v_im v_sp r _ _ _ R_im_w4.out R_sp_w4.out (by omega)).mono ?_
  rintro e w5 ⟨rfl, hbw5⟩
  have hzw5 : w4.heap.size ≤ w5.heap.size := hbw5.size
  have R_sp_w5 := Lib.hid (R_sp_w4.out.below hbw5)
  clear R_sp_w4
  have R_x_f_w5 := Lib.hid (R_x_f_w4.out.below hbw5)
  clear R_x_f_w4
  have R_im_w5 := Lib.hid (R_im_w4.out.below hbw5)
  clear R_im_w4
  have HBw5 : Hid (Below w.heap.size w w5) := Lib.hid (HBw4.out.trans (hbw5.mono HBw4.out.size))
  have hww5 := HBw5.out.size
  clear hbw5 HBw4
  go_wp2_with fail
  refine (toIntS_any _ l_f _ (HS_f.out.below HBw5.out (Nat.le_refl _)) b_f).mono ?_
  rintro e w6 ⟨v_y_f, rfl, hrw6, hbw6⟩
  have hzw6 : w5.heap.size ≤ w6.heap.size := hbw6.size
  have R_sp_w6 := Lib.hid (R_sp_w5.out.below hbw6)
  clear R_sp_w5
  have R_x_f_w6 := Lib.hid (R_x_f_w5.out.below hbw6)
  clear R_x_f_w5
  have R_im_w6 := Lib.hid (R_im_w5.out.below hbw6)
  clear R_im_w5
  have HBw6 : Hid (Below w.heap.size w w6) := Lib.hid (HBw5.out.trans (hbw6.mono HBw5.out.size))
  have hww6 := HBw6.out.size
  clear hbw6 HBw5
  have R_y_f_w6 := Lib.hid hrw6; clear hrw6
  have lt_y_f : Hid (∀ g, v_y_f.ownBlock = some g → w5.heap.size ≤ g ∧ g < w6.heap.size) := Lib.hid R_y_f_w6.out.lt
  go_wp2_with fail
  refine (eq_same v_x_f v_y_f l_f _ _ _ R_x_f_w6.out R_y_f_w6.out (by omega)).mono ?_
  rintro e w7 ⟨rfl, hbw7⟩
  have hzw7 : w6.heap.size ≤ w7.heap.size := hbw7.size
  have R_sp_w7 := Lib.hid (R_sp_w6.out.below hbw7)
  clear R_sp_w6
  have R_x_f_w7 := Lib.hid (R_x_f_w6.out.below hbw7)
  clear R_x_f_w6
  have R_im_w7 := Lib.hid (R_im_w6.out.below hbw7)
  clear R_im_w6
  have R_y_f_w7 := Lib.hid (R_y_f_w6.out.below hbw7)
  clear R_y_f_w6
  have HBw7 : Hid (Below w.heap.size w w7) := Lib.hid (HBw6.out.trans (hbw7.mono HBw6.out.size))
  have hww7 := HBw7.out.size
  clear hbw7 HBw6
  clear R_y_f_w7 lt_y_f
  go_wp2_with fail
  refine (mark_any v_x_f l_f _ (1) _ R_x_f_w7.out (by omega) (by omega) (by omega)).mono ?_
  rintro e w8 ⟨rfl, hrw8, hgw8⟩
  have hzw8 : w7.heap.size ≤ w8.heap.size := hgw8.size
  have R_sp_w8 := Lib.hid (R_sp_w7.out.keep (w' := w8) fun g hg => hgw8.block g (R_sp_w7.out.lt g hg).2 fun e => by have h1 := lt_sp.out g hg; have h2 := lt_x_f.out g e.symm; omega)
  clear R_sp_w7
  have R_im_w8 := Lib.hid (R_im_w7.out.keep (w' := w8) fun g hg => hgw8.block g (R_im_w7.out.lt g hg).2 fun e => by have h1 := lt_im.out g hg; have h2 := lt_x_f.out g e.symm; omega)
  clear R_im_w7
  have HBw8 : Hid (Below w.heap.size w w8) := Lib.hid (Below.grown HBw7.out hgw8 (by omega) (fun g e => by have h2 := lt_x_f.out g e; omega))
  have hww8 := HBw8.out.size
  have R_x_f_w8 := Lib.hid hrw8
  clear hrw8 hgw8 HBw7 R_x_f_w7
  clear R_x_f_w8 lt_x_f
  have hpos : ¬ (1 + (l_f.length : Int)) < (0 : Int) := by omega
  go_wp2_with fail
  refine (eq_same v_im v_sp r _ _ _ R_im_w8.out R_sp_w8.out (by omega)).mono ?_
  rintro e w9 ⟨rfl, hbw9⟩
  have hzw9 : w8.heap.size ≤ w9.heap.size := hbw9.size
  have R_sp_w9 := Lib.hid (R_sp_w8.out.below hbw9)
  clear R_sp_w8
  have R_im_w9 := Lib.hid (R_im_w8.out.below hbw9)
  clear R_im_w8
  have HBw9 : Hid (Below w.heap.size w w9) := Lib.hid (HBw8.out.trans (hbw9.mono HBw8.out.size))
  have hww9 := HBw9.out.size
  clear hbw9 HBw8
  go_wp2_with fail
  refine (mark_any v_im r _ (1) _ R_im_w9.out (by omega) (by omega) (by omega)).mono ?_
  rintro e w10 ⟨rfl, hrw10, hgw10⟩
  have hzw10 : w9.heap.size ≤ w10.heap.size := hgw10.size
  have R_sp_w10 := Lib.hid (R_sp_w9.out.keep (w' := w10) fun g hg => hgw10.block g (R_sp_w9.out.lt g hg).2 fun e => by have h1 := lt_sp.out g hg; have h2 := lt_im.out g e.symm; omega)
  clear R_sp_w9
  have HBw10 : Hid (Below w.heap.size w w10) := Lib.hid (Below.grown HBw9.out hgw10 (by omega) (fun g e => by have h2 := lt_im.out g e; omega))
  have hww10 := HBw10.out.size
  have R_im_w10 := Lib.hid hrw10
  clear hrw10 hgw10 HBw9 R_im_w9
  go_wp2_with fail
  refine (held_any v_im r.length _ (1) _ R_im_w10.out (by omega) (by omega) (by omega)).mono ?_
  rintro e wx1 ⟨rfl, rfl⟩
  go_wp2_with fail
  refine (toIntS_any _ l_f _ (HS_f.out.below HBw10.out (Nat.le_refl _)) b_f).mono ?_
  rintro e w11 ⟨v_t_f, rfl, hrw11, hbw11⟩
  have hzw11 : w10.heap.size ≤ w11.heap.size := hbw11.size
  have R_sp_w11 := Lib.hid (R_sp_w10.out.below hbw11)
  clear R_sp_w10
  have R_im_w11 := Lib.hid (R_im_w10.out.below hbw11)
  clear R_im_w10
  have HBw11 : Hid (Below w.heap.size w w11) := Lib.hid (HBw10.out.trans (hbw11.mono HBw10.out.size))
  have hww11 := HBw11.out.size
  clear hbw11 HBw10
  have R_t_f_w11 := Lib.hid hrw11; clear hrw11
  have lt_t_f : Hid (∀ g, v_t_f.ownBlock = some g → w10.heap.size ≤ g ∧ g < w11.heap.size) := Lib.hid R_t_f_w11.out.lt
  go_wp2_with fail
  refine (K2.out _ v_t_f R_t_f_w11.out.sl).mono ?_
  rintro e w12 ⟨v_im2, rfl, hrw12, hbw12⟩
  have hzw12 : w11.heap.size ≤ w12.heap.size := hbw12.size
  have R_sp_w12 := Lib.hid (R_sp_w11.out.below hbw12)
  clear R_sp_w11
  have R_im_w12 := Lib.hid (R_im_w11.out.below hbw12)
  clear R_im_w11
  have R_t_f_w12 := Lib.hid (R_t_f_w11.out.below hbw12)
  clear R_t_f_w11
  have HBw12 : Hid (Below w.heap.size w w12) := Lib.hid (HBw11.out.trans (hbw12.mono HBw11.out.size))
  have hww12 := HBw12.out.size
  clear hbw12 HBw11
  have R_im2_w12 := Lib.hid hrw12; clear hrw12
  have lt_im2 : Hid (∀ g, v_im2.ownBlock = some g → w11.heap.size ≤ g ∧ g < w12.heap.size) := Lib.hid R_im2_w12.out.lt
  clear R_t_f_w12 lt_t_f
  go_wp2_with fail
  refine (eq_same v_im2 v_sp r _ _ _ R_im2_w12.out R_sp_w12.out (by omega)).mono ?_
  rintro e w13 ⟨rfl, hbw13⟩
  have hzw13 : w12.heap.size ≤ w13.heap.size := hbw13.size
  have R_sp_w13 := Lib.hid (R_sp_w12.out.below hbw13)
  clear R_sp_w12
  have R_im_w13 := Lib.hid (R_im_w12.out.below hbw13)
  clear R_im_w12
  have R_im2_w13 := Lib.hid (R_im2_w12.out.below hbw13)
  clear R_im2_w12
  have HBw13 : Hid (Below w.heap.size w w13) := Lib.hid (HBw12.out.trans (hbw13.mono HBw12.out.size))
  have hww13 := HBw13.out.size
  clear hbw13 HBw12
  go_wp2_with fail
  refine (held_any v_im r.length _ (1) _ R_im_w13.out (by omega) (by omega) (by omega)).mono ?_
  rintro e wx2 ⟨rfl, rfl⟩
  go_wp2
  go_ret
  exact ⟨rfl, HBw13.out⟩
end Go.Proofs.Ytimpgbifnijkkaa
