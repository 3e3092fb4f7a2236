/- No element twice, of the model; DoesPermute, of both, by contracts; the walk of its law. -/
import Derived.Test.YtommagdddleoiaaLC
namespace Go.Proofs.Ytommagdddleoiaa
open Go.RowKit
theorem Row.capv {w : World} {B : Nat} {v : Value} {l : List Int} (h : Row w B v l) : ∀ a k cap, v = .slice a k cap → k ≤ cap := by
  intro a k cap e
  subst e
  by_cases hl : 0 < l.length
  · obtain ⟨g, c, e, _, _⟩ := h.form hl
    cases e
    exact h.cap
  · obtain rfl : l = [] := List.length_eq_zero_iff.1 (by omega)
    obtain ⟨a, c, e⟩ := h.empty
    cases e
    exact Nat.zero_le _
set_option maxHeartbeats 1000000 in
/-- spec.peDoes. -/
theorem peDoes_any (v : Value) (t : Nat → Int) (m : Nat) (w : World) (h : Sl w v (fl t m)) (hcap : ∀ a k cap, v = .slice a k cap → k ≤ cap) (hm : m ≤ 1000) :
    Calls Try.prog 38 #[v] w fun e w' => e = .returned (.bool (dis t m)) ∧ w = w' := by
  obtain ⟨a, cap, rfl, hp⟩ := h.parts
  have hc := hcap _ _ _ rfl
  clear h hcap
  by_cases h0 : 0 < m
  · obtain ⟨b, off, rfl, hb, hcl⟩ := hp h0
    have HC := Lib.hid hcl
    clear hp hcl
    have HY : Hid (∀ k, m ≤ k → (∀ i, i < k → ∀ j, j < i → t j ≠ t i) → dis t m = true) := Lib.hid fun k hk h => dis_iff.2 fun i hi j hj => h i (by omega) j hj
    have HN : Hid (∀ k, k < m → (fl t k).contains (t k) = true → dis t m = false) := Lib.hid fun k hk h => by
      obtain ⟨j, hj, e⟩ := contains_yes h
      exact dis_no hk hj e
    have HH : Hid (∀ k, k < m → Calls Try.prog 76 #[.slice (some ⟨b, off, none⟩) k cap, .int .i64 (t k)] w fun e w' => e = .returned (.bool ((fl t k).contains (t k))) ∧ w = w') := Lib.hid fun k hk =>
      has_any b off k cap (fl t k) (t k) w (by rw [fl_len]) (by omega) (fun j hj => by rw [fl_len] at hj; rw [fl_get _ _ _ hj]; exact HC.out j (by omega))
    have HCN : Hid (∀ k, (fl t k).contains (t k) = false → ∀ j, j < k → t j ≠ t k) := Lib.hid fun k h => contains_no h
    generalize dis t m = r at *
    go_enter Try.func38, Try.ntmps38
    go_wp2_with fail
    go_loopw [7] (fun vi wr => ∃ k : Nat, k ≤ m ∧ vi = .int .i64 k ∧ (∀ i, i < k → ∀ j, j < i → t j ≠ t i) ∧ w = wr) (fun vi _ => m - (intOf vi).toNat)
    case atStart => exact ⟨0, Nat.zero_le _, rfl, fun i hi => absurd hi (Nat.not_lt_zero _), rfl⟩
    case round =>
      obtain ⟨k, hk, rfl, hd, rfl⟩ := hrel
      by_cases hlt : k < m
      · have hc0 := HC.out k hlt
        have HH' := Lib.hid (HH.out k hlt)
        have HD := Lib.hid hd; clear hd
        have hkc : k ≤ cap := by omega
        cases hcn : (fl t k).contains (t k) with
        | true =>
          rw [hcn] at HH'
          have HF := Lib.hid (HN.out k hlt hcn)
          clear hcn
          generalize t k = x at *
          go_wp2_with fail
          refine HH'.out.mono ?_
          rintro e w1 ⟨rfl, rfl⟩
          go_wp2
          go_ret
          exact ⟨ret_bool HF.out.symm, by first | rfl | trivial⟩
        | false =>
          rw [hcn] at HH'
          have HF := Lib.hid (HCN.out k hcn)
          clear hcn
          go_wp2_with fail
          refine HH'.out.mono ?_
          rintro e w1 ⟨rfl, rfl⟩
          go_wp2
          go_roundw
          case rel =>
            refine ⟨k + 1, by omega, by go_num, ?_, by first | trivial | rfl⟩
            intro i hi j hj
            by_cases e : i = k
            · subst e
              exact HF.out j hj
            · exact HD.out i (by omega) j hj
          case measure => simp [intOf]; omega
      · obtain rfl : m = k := by omega
        have HF := Lib.hid (HY.out _ (Nat.le_refl _) hd)
        clear hd
        go_wp2
        go_ret
        exact ⟨ret_bool HF.out.symm, by first | rfl | trivial⟩
  · obtain rfl : m = 0 := by omega
    have HF : Hid (dis t 0 = true) := Lib.hid rfl
    clear hp
    generalize dis t 0 = r at *
    go_enter Try.func38, Try.ntmps38
    go_wp2_with fail
    go_loopw [7] (fun vi wr => vi = .int .i64 0 ∧ w = wr) (fun _ _ => 0)
    case atStart => exact ⟨rfl, rfl⟩
    case round =>
      obtain ⟨rfl, rfl⟩ := hrel
      go_wp2
      go_ret
      exact ⟨ret_bool HF.out.symm, by first | rfl | trivial⟩

theorem spec_DoesPermute_no (q : Int) (v : Value) (l : List Int) (w : World) (hv : Sl w v l) (hl : l.length ≤ 1048576) (hg : (isSz q && good q l) = false) :
    Calls Try.prog 13 #[.int .i64 q, v] w fun e w' => e = .returned (.tuple #[.bool false, .bool false]) ∧ Below w.heap.size w w' := by
  have hp := plGood_any q v l w hv hl
  rw [hg] at hp
  have HP := Lib.hid hp
  clear hp hg hv hl
  go_enter Try.func13, Try.ntmps13
  go_wp2_with fail
  refine HP.out.mono ?_
  rintro e w1 ⟨rfl, hb1⟩
  go_wp2
  go_ret2
  exact ⟨rfl, hb1⟩
theorem impl_DoesPermute_no (q : Int) (v : Value) (l : List Int) (w : World) (hv : Sl w v l) (hl : l.length ≤ 1048576) (hg : (isSz q && good q l) = false) :
    Calls Try.prog 15 #[.int .i64 q, v] w fun e w' => e = .returned (.tuple #[.bool false, .bool false]) ∧ Below w.heap.size w w' := by
  have HP := Lib.hid (validPoly_no q v l w hv hl hg)
  clear hg hv hl
  go_enter Try.func15, Try.ntmps15
  go_wp2_with fail
  refine HP.out.mono ?_
  rintro e w1 ⟨rfl, hb1⟩
  have hz_hb1 := hb1.size; (try simp at hz_hb1)
  have HB1 := Lib.hid hb1; clear hb1
  go_wp2_with fail
  go_ret2
  have hb1 := HB1.out
  exact ⟨rfl, by (repeat' (first | (with_reducible assumption) | (with_reducible exact Below.refl _ _) | (with_reducible refine below_drewN ?_ _) | (with_reducible refine Below.drew ?_) | (with_reducible refine Below.alloc ?_ ?_ _) | (with_reducible refine Below.setCell ?_ ?_ _) | (with_reducible refine Below.trans ?_ (Below.mono (by assumption) ?_)) | (with_reducible exact Nat.le_refl _) | (with_reducible assumption) | omega | (simp; omega) | (simp; done)))⟩
set_option maxHeartbeats 2000000 in
theorem spec_DoesPermute_yes (m : Nat) (v : Value) (l : List Int) (w : World) (h : isSz (m : Int) = true) (hv : Sl w v l) (hg : good (m : Int) l = true) :
    Calls Try.prog 13 #[.int .i64 m, v] w fun e w' => e = .returned (.tuple #[.bool (dis (tabF (m : Int) (fun i => l.getD i 0) l.length) m), .bool true]) ∧ Below w.heap.size w w' := by
  have hq := isSz_le (m : Int) h
  have hlen := (good_parts hg).1
  have hp := plGood_any (m : Int) v l w hv (by omega)
  rw [h, hg] at hp
  have HP := Lib.hid hp
  have HV := Lib.hid (fun w' (hb : Below w.heap.size w w') => plValues_any (m : Int) v l w' h (hv.below hb (Nat.le_refl _)) hg)
  have HTE := Lib.hid (fun i (hi : i < m) => tab_el (k := l.length) h (all_el h (good_parts hg).2) i hi)
  simp only [Int.toNat_natCast] at HV
  clear hp hg hv h
  generalize (tabF (m : Int) (fun i => l.getD i 0) l.length) = t at *
  go_enter Try.func13, Try.ntmps13
  go_wp2_with fail
  refine HP.out.mono ?_
  rintro e w1 ⟨rfl, hb1⟩
  have hz_hb1 := hb1.size; (try simp at hz_hb1)
  have HB1 := Lib.hid hb1; clear hb1
  go_wp2_with fail
  refine (HV.out _ HB1.out).mono ?_
  rintro e w2 ⟨v2, rfl, hr2, hb2⟩
  have HR2 := Lib.hid hr2; clear hr2
  have HB2 := Lib.hid hb2; clear hb2
  go_wp2_with fail
  refine (peDoes_any v2 t m _ HR2.out.sl HR2.out.capv (by omega)).mono ?_
  rintro e w3 ⟨rfl, rfl⟩
  go_wp2
  go_ret2
  exact ⟨rfl, HB1.out.trans (HB2.out.mono hz_hb1)⟩
set_option maxHeartbeats 2000000 in
theorem impl_DoesPermute_yes (m : Nat) (v : Value) (l : List Int) (w : World) (h : isSz (m : Int) = true) (hv : Sl w v l) (hg : good (m : Int) l = true) :
    Calls Try.prog 15 #[.int .i64 m, v] w fun e w' => e = .returned (.tuple #[.bool (dis (tabF (m : Int) (fun i => l.getD i 0) l.length) m), .bool true]) ∧ Below w.heap.size w w' := by
  have hq := isSz_le (m : Int) h
  have hlen := (good_parts hg).1
  have hf := all_el h (good_parts hg).2
  have HP := Lib.hid (validPoly_yes (m : Int) v l w h hv hg)
  have HT := Lib.hid (fun (g1 : Nat) w' (hgl1 : g1 < w'.heap.size) (he1 : Els w' g1 (m : Int) (fun i => l.getD i 0) l.length) => permutesE m g1 l.length l.length (fun i => l.getD i 0) w' h hgl1 he1 hf (by omega))
  rw [dis_onto (fun i hi => tab_el h hf i hi)]
  clear hg hv h hf
  generalize (tabF (m : Int) (fun i => l.getD i 0) l.length) = t at *
  generalize (fun i => l.getD i 0) = f at *
  generalize l.length = n at *
  go_enter Try.func15, Try.ntmps15
  go_wp2_with fail
  refine HP.out.mono ?_
  rintro e w1 ⟨g1, rfl, hgg1, hk1', he1, hb1⟩
  have hgl1 := hk1'.lt
  have HE1 := Lib.hid he1; clear he1 hk1'
  have hz_hb1 := hb1.size; (try simp at hz_hb1)
  have HB1 := Lib.hid hb1; clear hb1
  go_wp2_with fail
  refine (HT.out g1 _ (by simp; omega) (HE1.out.below (B := w1.heap.size) (by (repeat' (first | (with_reducible assumption) | (with_reducible exact Below.refl _ _) | (with_reducible refine below_drewN ?_ _) | (with_reducible refine Below.drew ?_) | (with_reducible refine Below.alloc ?_ ?_ _) | (with_reducible refine Below.setCell ?_ ?_ _) | (with_reducible refine Below.trans ?_ (Below.mono (by assumption) ?_)) | (with_reducible exact Nat.le_refl _) | (with_reducible assumption) | omega | (simp; omega) | (simp; done)))) hgl1)).mono ?_
  rintro e w2 ⟨rfl, hb2⟩
  have hz_hb2 := hb2.size; (try simp at hz_hb2)
  have HB2 := Lib.hid hb2; clear hb2
  go_wp2
  go_ret2
  have hb1 := HB1.out
  have hb2 := HB2.out
  exact ⟨rfl, by (repeat' (first | (with_reducible assumption) | (with_reducible exact Below.refl _ _) | (with_reducible refine below_drewN ?_ _) | (with_reducible refine Below.drew ?_) | (with_reducible refine Below.alloc ?_ ?_ _) | (with_reducible refine Below.setCell ?_ ?_ _) | (with_reducible refine Below.trans ?_ (Below.mono (by assumption) ?_)) | (with_reducible exact Nat.le_refl _) | (with_reducible assumption) | omega | (simp; omega) | (simp; done)))⟩
theorem key_DoesPermute (q : Int) (l_f : List Int) (b_f : l_f.length ≤ 1048576) : ∃ (r : Bool) (o : Bool), (∀ (w : World) (v_f : Value) (_ : Sl w v_f l_f), Calls Try.prog 13 #[.int .i64 q, v_f] w fun e w' => e = .returned (.tuple #[.bool r, .bool o]) ∧ Below w.heap.size w w') ∧
      (∀ (w : World) (v_f : Value) (_ : Sl w v_f l_f), Calls Try.prog 15 #[.int .i64 q, v_f] w fun e w' => e = .returned (.tuple #[.bool r, .bool o]) ∧ Below w.heap.size w w') := by
  cases h : isSz q && good q l_f with
  | false => exact ⟨false, false, fun w v hv => spec_DoesPermute_no q v l_f w hv b_f h, fun w v hv => impl_DoesPermute_no q v l_f w hv b_f h⟩
  | true =>
    simp only [Bool.and_eq_true] at h
    have hq := isSz_le q h.1
    obtain ⟨m, rfl⟩ := Int.eq_ofNat_of_zero_le (show 0 ≤ q by omega)
    have hlen := (good_parts h.2).1
    exact ⟨dis (tabF (m : Int) (fun i => l_f.getD i 0) l_f.length) m, true, fun w v hv => spec_DoesPermute_yes m v l_f w h.1 hv h.2, fun w v hv => impl_DoesPermute_yes m v l_f w h.1 hv h.2⟩
set_option maxRecDepth 100000 in
set_option maxHeartbeats 4000000 in
/-- laws.FnExactDoesPermute. -/
theorem walk_FnExactDoesPermute (q : Int) (a_f : Option Addr) (n_f c_f : Nat) (z_f : List Int) (w : World) (_h_q : (Lit.int .i64 q).wf = true) (h_f : IsRow .i64 w a_f n_f c_f z_f) :
    Calls Try.prog 3 #[.int .i64 q, .slice a_f n_f c_f] w fun e w' => e = .returned (.bool true) ∧ Below w.heap.size w w' := by
  clear _h_q
  obtain ⟨hs_f, hl_f, _⟩ := h_f.sl
  generalize z_f.take n_f = l_f at *
  clear h_f
  subst hl_f
  by_cases b_f : l_f.length ≤ 1048576
  rotate_left
  · have hn_f : (1048576 : Int) < (l_f.length : Int) := by omega
    go_enter Try.func3, Try.ntmps3
    go_wp2
    go_ret
    exact ⟨rfl, Below.refl _ _⟩
  have hn_f : ¬ (1048576 : Int) < (l_f.length : Int) := by omega
  obtain ⟨r, o, k1, k2⟩ := key_DoesPermute q l_f b_f
  have K1 := Lib.hid k1; clear k1
  have K2 := Lib.hid k2; clear k2
  have HS_f := Lib.hid hs_f; clear hs_f
  have HB0 : Hid (Below w.heap.size w w) := Lib.hid (Below.refl _ _)
  go_enter Try.func3, Try.ntmps3
  go_wp2_with fail
  refine (toIntS_any _ l_f _ (HS_f.out.below HB0.out (Nat.le_refl _)) b_f).mono ?_
  rintro e w1 ⟨v_s_f, rfl, hrw1, hbw1⟩
  have hzw1 : w.heap.size ≤ w1.heap.size := hbw1.size
  have HBw1 : Hid (Below w.heap.size w w1) := Lib.hid (HB0.out.trans (hbw1.mono HB0.out.size))
  have hww1 := HBw1.out.size
  clear hbw1 HB0
  have R_s_f_w1 := Lib.hid hrw1; clear hrw1
  have lt_s_f : Hid (∀ g, v_s_f.ownBlock = some g → w.heap.size ≤ g ∧ g < w1.heap.size) := Lib.hid R_s_f_w1.out.lt
  go_wp2_with fail
  refine (K1.out _ v_s_f R_s_f_w1.out.sl).mono ?_
  rintro e w2 ⟨rfl, hbw2⟩
  have hzw2 : w1.heap.size ≤ w2.heap.size := hbw2.size
  have R_s_f_w2 := Lib.hid (R_s_f_w1.out.below hbw2)
  clear R_s_f_w1
  have HBw2 : Hid (Below w.heap.size w w2) := Lib.hid (HBw1.out.trans (hbw2.mono HBw1.out.size))
  have hww2 := HBw2.out.size
  clear hbw2 HBw1
  clear R_s_f_w2 lt_s_f
  go_wp2_with fail
  refine (toIntS_any _ l_f _ (HS_f.out.below HBw2.out (Nat.le_refl _)) b_f).mono ?_
  rintro e w3 ⟨v_x_f, rfl, hrw3, hbw3⟩
  have hzw3 : w2.heap.size ≤ w3.heap.size := hbw3.size
  have HBw3 : Hid (Below w.heap.size w w3) := Lib.hid (HBw2.out.trans (hbw3.mono HBw2.out.size))
  have hww3 := HBw3.out.size
  clear hbw3 HBw2
  have R_x_f_w3 := Lib.hid hrw3; clear hrw3
  have lt_x_f : Hid (∀ g, v_x_f.ownBlock = some g → w2.heap.size ≤ g ∧ g < w3.heap.size) := Lib.hid R_x_f_w3.out.lt
  go_wp2_with fail
  refine (K2.out _ v_x_f R_x_f_w3.out.sl).mono ?_
  rintro e w4 ⟨rfl, hbw4⟩
  have hzw4 : w3.heap.size ≤ w4.heap.size := hbw4.size
  have R_x_f_w4 := Lib.hid (R_x_f_w3.out.below hbw4)
  clear R_x_f_w3
  have HBw4 : Hid (Below w.heap.size w w4) := Lib.hid (HBw3.out.trans (hbw4.mono HBw3.out.size))
  have hww4 := HBw4.out.size
  clear hbw4 HBw3
  go_wp2_with fail
  refine (toIntS_any _ l_f _ (HS_f.out.below HBw4.out (Nat.le_refl _)) b_f).mono ?_
  rintro e w5 ⟨v_y_f, rfl, hrw5, hbw5⟩
  have hzw5 : w4.heap.size ≤ w5.heap.size := hbw5.size
  have R_x_f_w5 := Lib.hid (R_x_f_w4.out.below hbw5)
  clear R_x_f_w4
  have HBw5 : Hid (Below w.heap.size w w5) := Lib.hid (HBw4.out.trans (hbw5.mono HBw4.out.size))
  have hww5 := HBw5.out.size
  clear hbw5 HBw4
  have R_y_f_w5 := Lib.hid hrw5; clear hrw5
  have lt_y_f : Hid (∀ g, v_y_f.ownBlock = some g → w4.heap.size ≤ g ∧ g < w5.heap.size) := Lib.hid R_y_f_w5.out.lt
  go_wp2_with fail
  refine (eq_same v_x_f v_y_f l_f _ _ _ R_x_f_w5.out R_y_f_w5.out (by omega)).mono ?_
  rintro e w6 ⟨rfl, hbw6⟩
  have hzw6 : w5.heap.size ≤ w6.heap.size := hbw6.size
  have R_x_f_w6 := Lib.hid (R_x_f_w5.out.below hbw6)
  clear R_x_f_w5
  have R_y_f_w6 := Lib.hid (R_y_f_w5.out.below hbw6)
  clear R_y_f_w5
  have HBw6 : Hid (Below w.heap.size w w6) := Lib.hid (HBw5.out.trans (hbw6.mono HBw5.out.size))
  have hww6 := HBw6.out.size
  clear hbw6 HBw5
  clear R_y_f_w6 lt_y_f
  go_wp2
  go_ret
  exact ⟨rfl, HBw6.out⟩
end Go.Proofs.Ytommagdddleoiaa
