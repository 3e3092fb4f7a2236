/- DegreeOf and NumberOfPoly, of the program and of the model, by contracts; the walks of their laws. -/
import Derived.Test.YthklnfanbegecabHK
namespace Go.Proofs.Ythklnfanbegecab
open Go.RowKit
theorem ret_ib {a b : Int} {o p : Bool} (h : a = b) (h2 : o = p) : Ending.returned (.tuple #[.int .i64 a, .bool o]) = .returned (.tuple #[.int .i64 b, .bool p]) := by rw [h, h2]

theorem spec_DegreeOf_no (q : Int) (v : Value) (l : List Int) (w : World) (hv : Sl w v l) (hl : l.length ≤ 1048576) (hg : (isSz q && good q l) = false) :
    Calls Try.prog 20 #[.int .i64 q, v] w fun e w' => e = .returned (.tuple #[.int .i64 0, .bool false]) ∧ Below w.heap.size w w' := by
  have hp := plGood_any q v l w hv hl
  rw [hg] at hp
  have HP := Lib.hid hp
  clear hp hg hv hl
  go_enter Try.func20, Try.ntmps20
  go_wp2_with fail
  refine HP.out.mono ?_
  rintro e w1 ⟨rfl, hb1⟩
  go_wp2
  go_ret2
  exact ⟨rfl, hb1⟩
theorem impl_DegreeOf_no (q : Int) (v : Value) (l : List Int) (w : World) (hv : Sl w v l) (hl : l.length ≤ 1048576) (hg : (isSz q && good q l) = false) :
    Calls Try.prog 21 #[.int .i64 q, v] w fun e w' => e = .returned (.tuple #[.int .i64 0, .bool false]) ∧ Below w.heap.size w w' := by
  have HP := Lib.hid (validPoly_no q v l w hv hl hg)
  clear hg hv hl
  go_enter Try.func21, Try.ntmps21
  go_wp2_with fail
  refine HP.out.mono ?_
  rintro e w1 ⟨rfl, hb1⟩
  have hz_hb1 := hb1.size; (try simp at hz_hb1)
  have HB1 := Lib.hid hb1; clear hb1
  go_wp2_with fail
  go_ret2
  have hb1 := HB1.out
  exact ⟨rfl, by (repeat' (first | (with_reducible assumption) | (with_reducible exact Below.refl _ _) | (with_reducible refine below_drewN ?_ _) | (with_reducible refine Below.drew ?_) | (with_reducible refine Below.alloc ?_ ?_ _) | (with_reducible refine Below.setCell ?_ ?_ _) | (with_reducible refine Below.trans ?_ (Below.mono (by assumption) ?_)) | (with_reducible exact Nat.le_refl _) | (with_reducible assumption) | omega | (simp; omega) | (simp; done)))⟩

theorem spec_DegreeOf_yes (q : Int) (v : Value) (l : List Int) (w : World) (h : isSz q = true) (hv : Sl w v l) (hg : good q l = true) :
    Calls Try.prog 20 #[.int .i64 q, v] w fun e w' => e = .returned (.tuple #[.int .i64 ((l.length : Int) - 1), .bool true]) ∧ Below w.heap.size w w' := by
  have hq := isSz_le q h
  have hlen := (good_parts hg).1
  have hp := plGood_any q v l w hv (by omega)
  rw [h, hg] at hp
  have HP := Lib.hid hp
  obtain ⟨a, cap, rfl⟩ := hv.form
  clear hp hg hv h
  generalize l.length = n at *
  go_enter Try.func20, Try.ntmps20
  go_wp2_with fail
  refine HP.out.mono ?_
  rintro e w1 ⟨rfl, hb1⟩
  go_wp2
  go_ret2
  exact ⟨rfl, hb1⟩
set_option maxHeartbeats 1000000 in
theorem impl_DegreeOf_yes (q : Int) (v : Value) (l : List Int) (w : World) (h : isSz q = true) (hv : Sl w v l) (hg : good q l = true) :
    Calls Try.prog 21 #[.int .i64 q, v] w fun e w' => e = .returned (.tuple #[.int .i64 ((l.length : Int) - 1), .bool true]) ∧ Below w.heap.size w w' := by
  have hq := isSz_le q h
  have hlen := (good_parts hg).1
  have HP := Lib.hid (validPoly_yes q v l w h hv hg)
  clear hg hv h
  generalize (fun i => l.getD i 0) = f at *
  generalize l.length = n at *
  have HD := Lib.hid (fun g w => degreeE q g n n w (by omega))
  go_enter Try.func21, Try.ntmps21
  go_wp2_with fail
  refine HP.out.mono ?_
  rintro e w1 ⟨g, rfl, hg, hk, he, hb1⟩
  clear hk he
  have hz_hb1 := hb1.size; (try simp at hz_hb1)
  have HB1 := Lib.hid hb1; clear hb1
  go_wp2_with fail
  refine (HD.out _ _).mono ?_
  rintro e w2 ⟨rfl, hb2⟩
  have hz_hb2 := hb2.size; (try simp at hz_hb2)
  have HB2 := Lib.hid hb2; clear hb2
  go_wp2
  go_ret2
  have hb1 := HB1.out
  have hb2 := HB2.out
  exact ⟨rfl, by (repeat' (first | (with_reducible assumption) | (with_reducible exact Below.refl _ _) | (with_reducible refine below_drewN ?_ _) | (with_reducible refine Below.drew ?_) | (with_reducible refine Below.alloc ?_ ?_ _) | (with_reducible refine Below.setCell ?_ ?_ _) | (with_reducible refine Below.trans ?_ (Below.mono (by assumption) ?_)) | (with_reducible exact Nat.le_refl _) | (with_reducible assumption) | omega | (simp; omega) | (simp; done)))⟩

theorem key_DegreeOf (q : Int) (l_f : List Int) (b_f : l_f.length ≤ 1048576) : ∃ (r : Int) (o : Bool), (∀ (w : World) (v_f : Value) (_ : Sl w v_f l_f), Calls Try.prog 20 #[.int .i64 q, v_f] w fun e w' => e = .returned (.tuple #[.int .i64 r, .bool o]) ∧ Below w.heap.size w w') ∧
      (∀ (w : World) (v_f : Value) (_ : Sl w v_f l_f), Calls Try.prog 21 #[.int .i64 q, v_f] w fun e w' => e = .returned (.tuple #[.int .i64 r, .bool o]) ∧ Below w.heap.size w w') := by
  cases h : isSz q && good q l_f with
  | false => exact ⟨_, _, fun w v hv => spec_DegreeOf_no q v l_f w hv b_f h, fun w v hv => impl_DegreeOf_no q v l_f w hv b_f h⟩
  | true =>
    simp only [Bool.and_eq_true] at h
    exact ⟨_, _, fun w v hv => spec_DegreeOf_yes q v l_f w h.1 hv h.2, fun w v hv => impl_DegreeOf_yes q v l_f w h.1 hv h.2⟩
set_option maxRecDepth 100000 in
set_option maxHeartbeats 4000000 in
/-- laws.FnExactDegreeOf. -/
theorem walk_FnExactDegreeOf (q : Int) (a_f : Option Addr) (n_f c_f : Nat) (z_f : List Int) (w : World) (_h_q : (Lit.int .i64 q).wf = true) (h_f : IsRow .i64 w a_f n_f c_f z_f) :
    Calls Try.prog 5 #[.int .i64 q, .slice a_f n_f c_f] w fun e w' => e = .returned (.bool true) ∧ Below w.heap.size w w' := by
  clear _h_q
  obtain ⟨hs_f, hl_f, _⟩ := h_f.sl
  generalize z_f.take n_f = l_f at *
  clear h_f
  subst hl_f
  by_cases b_f : l_f.length ≤ 1048576
  rotate_left
  · have hn_f : (1048576 : Int) < (l_f.length : Int) := by omega
    go_enter Try.func5, Try.ntmps5
    go_wp2
    go_ret
    exact ⟨rfl, Below.refl _ _⟩
  have hn_f : ¬ (1048576 : Int) < (l_f.length : Int) := by omega
  obtain ⟨r, o, k1, k2⟩ := key_DegreeOf q l_f b_f
  have K1 := Lib.hid k1; clear k1
  have K2 := Lib.hid k2; clear k2
  have HS_f := Lib.hid hs_f; clear hs_f
  have HB0 : Hid (Below w.heap.size w w) := Lib.hid (Below.refl _ _)
  go_enter Try.func5, Try.ntmps5
  go_wp2_with fail
  refine (toIntS_any _ l_f _ (HS_f.out.below HB0.out (Nat.le_refl _)) b_f).mono ?_
  rintro e w1 ⟨v_s_f, rfl, hrw1, hbw1⟩
  have hzw1 : w.heap.size ≤ w1.heap.size := hbw1.size
  have HBw1 : Hid (Below w.heap.size w w1) := Lib.hid (HB0.out.trans (hbw1.mono HB0.out.size))
  have hww1 := HBw1.out.size
  clear hbw1 HB0
  have R_s_f_w1 := Lib.hid hrw1; clear hrw1
  have lt_s_f : Hid (∀ g, v_s_f.ownBlock = some g → w.heap.size ≤ g ∧ g < w1.heap.size) := Lib.hid R_s_f_w1.out.lt
  go_wp2_with fail
  refine (K1.out _ v_s_f R_s_f_w1.out.sl).mono ?_
  rintro e w2 ⟨rfl, hbw2⟩
  have hzw2 : w1.heap.size ≤ w2.heap.size := hbw2.size
  have R_s_f_w2 := Lib.hid (R_s_f_w1.out.below hbw2)
  clear R_s_f_w1
  have HBw2 : Hid (Below w.heap.size w w2) := Lib.hid (HBw1.out.trans (hbw2.mono HBw1.out.size))
  have hww2 := HBw2.out.size
  clear hbw2 HBw1
  clear R_s_f_w2 lt_s_f
  go_wp2_with fail
  refine (toIntS_any _ l_f _ (HS_f.out.below HBw2.out (Nat.le_refl _)) b_f).mono ?_
  rintro e w3 ⟨v_x_f, rfl, hrw3, hbw3⟩
  have hzw3 : w2.heap.size ≤ w3.heap.size := hbw3.size
  have HBw3 : Hid (Below w.heap.size w w3) := Lib.hid (HBw2.out.trans (hbw3.mono HBw2.out.size))
  have hww3 := HBw3.out.size
  clear hbw3 HBw2
  have R_x_f_w3 := Lib.hid hrw3; clear hrw3
  have lt_x_f : Hid (∀ g, v_x_f.ownBlock = some g → w2.heap.size ≤ g ∧ g < w3.heap.size) := Lib.hid R_x_f_w3.out.lt
  go_wp2_with fail
  refine (K2.out _ v_x_f R_x_f_w3.out.sl).mono ?_
  rintro e w4 ⟨rfl, hbw4⟩
  have hzw4 : w3.heap.size ≤ w4.heap.size := hbw4.size
  have R_x_f_w4 := Lib.hid (R_x_f_w3.out.below hbw4)
  clear R_x_f_w3
  have HBw4 : Hid (Below w.heap.size w w4) := Lib.hid (HBw3.out.trans (hbw4.mono HBw3.out.size))
  have hww4 := HBw4.out.size
  clear hbw4 HBw3
  go_wp2_with fail
  refine (toIntS_any _ l_f _ (HS_f.out.below HBw4.out (Nat.le_refl _)) b_f).mono ?_
  rintro e w5 ⟨v_y_f, rfl, hrw5, hbw5⟩
  have hzw5 : w4.heap.size ≤ w5.heap.size := hbw5.size
  have R_x_f_w5 := Lib.hid (R_x_f_w4.out.below hbw5)
  clear R_x_f_w4
  have HBw5 : Hid (Below w.heap.size w w5) := Lib.hid (HBw4.out.trans (hbw5.mono HBw4.out.size))
  have hww5 := HBw5.out.size
  clear hbw5 HBw4
  have R_y_f_w5 := Lib.hid hrw5; clear hrw5
  have lt_y_f : Hid (∀ g, v_y_f.ownBlock = some g → w4.heap.size ≤ g ∧ g < w5.heap.size) := Lib.hid R_y_f_w5.out.lt
  go_wp2_with fail
  refine (eq_same v_x_f v_y_f l_f _ _ _ R_x_f_w5.out R_y_f_w5.out (by omega)).mono ?_
  rintro e w6 ⟨rfl, hbw6⟩
  have hzw6 : w5.heap.size ≤ w6.heap.size := hbw6.size
  have R_x_f_w6 := Lib.hid (R_x_f_w5.out.below hbw6)
  clear R_x_f_w5
  have R_y_f_w6 := Lib.hid (R_y_f_w5.out.below hbw6)
  clear R_y_f_w5
  have HBw6 : Hid (Below w.heap.size w w6) := Lib.hid (HBw5.out.trans (hbw6.mono HBw5.out.size))
  have hww6 := HBw6.out.size
  clear hbw6 HBw5
  clear R_y_f_w6 lt_y_f
  go_wp2
  go_ret
  exact ⟨rfl, HBw6.out⟩

theorem spec_NumberOfPoly_no (q : Int) (v : Value) (l : List Int) (w : World) (hv : Sl w v l) (hl : l.length ≤ 1048576) (hg : (isSz q && good q l) = false) :
    Calls Try.prog 24 #[.int .i64 q, v] w fun e w' => e = .returned (.tuple #[.int .i64 0, .bool false]) ∧ Below w.heap.size w w' := by
  have hp := plGood_any q v l w hv hl
  rw [hg] at hp
  have HP := Lib.hid hp
  clear hp hg hv hl
  go_enter Try.func24, Try.ntmps24
  go_wp2_with fail
  refine HP.out.mono ?_
  rintro e w1 ⟨rfl, hb1⟩
  go_wp2
  go_ret2
  exact ⟨rfl, hb1⟩
theorem impl_NumberOfPoly_no (q : Int) (v : Value) (l : List Int) (w : World) (hv : Sl w v l) (hl : l.length ≤ 1048576) (hg : (isSz q && good q l) = false) :
    Calls Try.prog 25 #[.int .i64 q, v] w fun e w' => e = .returned (.tuple #[.int .i64 0, .bool false]) ∧ Below w.heap.size w w' := by
  have HP := Lib.hid (validPoly_no q v l w hv hl hg)
  clear hg hv hl
  go_enter Try.func25, Try.ntmps25
  go_wp2_with fail
  refine HP.out.mono ?_
  rintro e w1 ⟨rfl, hb1⟩
  have hz_hb1 := hb1.size; (try simp at hz_hb1)
  have HB1 := Lib.hid hb1; clear hb1
  go_wp2_with fail
  go_ret2
  have hb1 := HB1.out
  exact ⟨rfl, by (repeat' (first | (with_reducible assumption) | (with_reducible exact Below.refl _ _) | (with_reducible refine below_drewN ?_ _) | (with_reducible refine Below.drew ?_) | (with_reducible refine Below.alloc ?_ ?_ _) | (with_reducible refine Below.setCell ?_ ?_ _) | (with_reducible refine Below.trans ?_ (Below.mono (by assumption) ?_)) | (with_reducible exact Nat.le_refl _) | (with_reducible assumption) | omega | (simp; omega) | (simp; done)))⟩

/-- The number of the k upper coefficients. -/
def nbr (q : Int) (f : Nat → Int) (n : Nat) : Nat → Int
  | 0 => 0
  | k + 1 => nbr q f n k * q + f (n - 1 - k)
/-- No part of the number is too great. -/
def nok (q : Int) (f : Nat → Int) (n : Nat) : Bool := (List.range (n + 1)).all fun k => decide (nbr q f n k ≤ 999999)
theorem nok_yes {q : Int} {f : Nat → Int} {n : Nat} (h : ∀ k, k ≤ n → nbr q f n k ≤ 999999) : nok q f n = true := by
  rw [nok, List.all_eq_true]
  intro k hk
  exact decide_eq_true (h k (by have := List.mem_range.1 hk; omega))
theorem nok_no {q : Int} {f : Nat → Int} {n : Nat} (k : Nat) (hk : k ≤ n) (h : 999999 < nbr q f n k) : nok q f n = false := by
  rw [nok, List.all_eq_false]
  exact ⟨k, List.mem_range.2 (by omega), by simp; omega⟩

set_option maxHeartbeats 2000000 in
theorem spec_NumberOfPoly_yes (q : Int) (v : Value) (l : List Int) (w : World) (h : isSz q = true) (hv : Sl w v l) (hg : good q l = true) :
    Calls Try.prog 24 #[.int .i64 q, v] w fun e w' => e = .returned (.tuple #[.int .i64 (if nok q (fun i => l.getD i 0) l.length then nbr q (fun i => l.getD i 0) l.length l.length else 0), .bool (nok q (fun i => l.getD i 0) l.length)]) ∧ Below w.heap.size w w' := by
  have hq := isSz_le q h
  obtain ⟨hlen, hall⟩ := good_parts hg
  have hp := plGood_any q v l w hv (by omega)
  rw [h, hg] at hp
  have HP := Lib.hid hp
  clear hp
  have HEL := Lib.hid (show ∀ i, i < l.length → 0 ≤ l.getD i 0 ∧ l.getD i 0 < q from fun i hi => by
    have hx := List.all_eq_true.1 hall (l.getD i 0) (by rw [show l.getD i 0 = l[i] by simp [List.getD, hi]]; exact List.getElem_mem hi)
    simpa [inF] using hx)
  by_cases h0 : 0 < l.length
  · obtain ⟨b, off, cap, rfl, hb, hc⟩ := hv.open rfl h0
    have HC := Lib.hid (show ∀ i, i < l.length → w.cell? ⟨b, off + i, none⟩ = some (.int .i64 (l.getD i 0)) from hc)
    clear hg hv h hall hc
    generalize hff : (fun i => l.getD i 0) = f at *
    have HC' : Hid (∀ i, i < l.length → w.cell? ⟨b, off + i, none⟩ = some (.int .i64 (f i))) := by subst hff; exact HC
    have HEL' : Hid (∀ i, i < l.length → 0 ≤ f i ∧ f i < q) := by subst hff; exact HEL
    clear HC HEL hff
    generalize l.length = n at *
    have HY : Hid ((∀ k, k ≤ n → nbr q f n k ≤ 999999) → (if nok q f n then nbr q f n n else 0) = nbr q f n n ∧ nok q f n = true) := Lib.hid fun h => by
      have e := nok_yes h
      exact ⟨by rw [if_pos e], e⟩
    have HNO : Hid (∀ k, k ≤ n → 999999 < nbr q f n k → (if nok q f n then nbr q f n n else 0) = 0 ∧ nok q f n = false) := Lib.hid fun k hk h => by
      have e := nok_no k hk h
      exact ⟨by rw [e]; rfl, e⟩
    generalize (if nok q f n then nbr q f n n else 0) = r at *
    generalize nok q f n = ok at *
    go_enter Try.func24, Try.ntmps24
    go_wp2_with fail
    refine HP.out.mono ?_
    rintro e w1 ⟨rfl, hb1⟩
    have HBS : Hid (Below w.heap.size w w1) := Lib.hid hb1
    clear hb1
    go_wp2_with fail
    go_loopw [6, 7] (fun vs vi wr => ∃ k : Nat, k ≤ n ∧ vi = .int .i64 ((n : Int) - 1 - (k : Int)) ∧ vs = .int .i64 (nbr q f n k) ∧ 0 ≤ nbr q f n k ∧ (∀ j, j ≤ k → nbr q f n j ≤ 999999) ∧ Below w.heap.size w wr) (fun _ vi _ => (intOf vi + 1).toNat)
    case atStart => exact ⟨0, Nat.zero_le _, by simp, rfl, Int.le_refl _, fun j hj => by (obtain rfl : j = 0 := by omega); simp [nbr], HBS.out⟩
    case round =>
      obtain ⟨k, hk, rfl, rfl, hn0, hle, hbw⟩ := hrel
      have hlek := hle k (Nat.le_refl _)
      have HLE := Lib.hid hle; clear hle
      have HS : Hid (nbr q f n (k + 1) = nbr q f n k * q + f (n - 1 - k)) := Lib.hid rfl
      by_cases hlt : k < n
      · have hc := (hbw.cell (p := ⟨b, off + (n - 1 - k), none⟩) hb).trans (HC'.out (n - 1 - k) (by omega))
        obtain ⟨u0, u1⟩ := HEL'.out (n - 1 - k) (by omega)
        have hz : ((n : Int) - 1 - (k : Int)) = ((n - 1 - k : Nat) : Int) := by omega
        have HBW := Lib.hid hbw; clear hbw
        have m0 : 0 ≤ nbr q f n k * q := Int.mul_nonneg hn0 (by omega)
        have m1 : nbr q f n k * q ≤ 999999 * 16 := Int.mul_le_mul hlek (by omega) (by omega) (by omega)
        rw [hz]
        have hin : n - 1 - k < n := by omega
        generalize hi : n - 1 - k = i at *
        have HI := Lib.hid hi; clear hi hz
        generalize f i = u at *
        generalize hx : nbr q f n k = x at *
        by_cases hbig : 999999 < x * q + u
        · go_wp2
          go_ret2
          have e := HNO.out (k + 1) (by omega) (by rw [HS.out]; exact hbig)
          exact ⟨ret_ib e.1.symm e.2.symm, HBW.out⟩
        · go_wp2
          go_roundw
          case rel =>
            have hI := HI.out
            refine ⟨k + 1, by omega, by rw [← hI]; exact congrArg (Value.int .i64) (by omega), by rw [HS.out], by rw [HS.out]; omega, ?_, HBW.out⟩
            intro j hj
            by_cases e : j = k + 1
            · subst e; rw [HS.out]; omega
            · exact HLE.out j (by omega)
          case measure => (simp [intOf]; try omega)
      · obtain rfl : n = k := by omega
        have HBW := Lib.hid hbw; clear hbw
        have e := HY.out HLE.out
        have HE := Lib.hid e; clear e
        go_wp2
        go_ret2
        exact ⟨ret_ib HE.out.1.symm HE.out.2.symm, HBW.out⟩
  · obtain rfl : l = [] := List.length_eq_zero_iff.1 (by omega)
    obtain ⟨a, cap, rfl⟩ := hv.empty
    clear hg hv h hall HEL h0
    have HE : Hid ((if nok q (fun i => ([] : List Int).getD i 0) ([] : List Int).length then nbr q (fun i => ([] : List Int).getD i 0) ([] : List Int).length ([] : List Int).length else 0) = 0 ∧ nok q (fun i => ([] : List Int).getD i 0) ([] : List Int).length = true) := Lib.hid (by
      have e : nok q (fun i => ([] : List Int).getD i 0) ([] : List Int).length = true := nok_yes fun k hk => by
        obtain rfl : k = 0 := by simpa using hk
        simp [nbr]
      exact ⟨by rw [e]; rfl, e⟩)
    generalize (if nok q (fun i => ([] : List Int).getD i 0) ([] : List Int).length then nbr q (fun i => ([] : List Int).getD i 0) ([] : List Int).length ([] : List Int).length else 0) = r at *
    generalize nok q (fun i => ([] : List Int).getD i 0) ([] : List Int).length = ok at *
    go_enter Try.func24, Try.ntmps24
    go_wp2_with fail
    refine HP.out.mono ?_
    rintro e w1 ⟨rfl, hb1⟩
    have HBS : Hid (Below w.heap.size w w1) := Lib.hid hb1
    clear hb1
    go_wp2_with fail
    (refine wp_loop_rounds 1 ?_; repeat any_goals (rw [rounds_succ]; go_wp2))
    go_wp2
    go_ret2
    exact ⟨ret_ib HE.out.1.symm HE.out.2.symm, HBS.out⟩

set_option maxHeartbeats 2000000 in
theorem impl_NumberOfPoly_yes (q : Int) (v : Value) (l : List Int) (w : World) (h : isSz q = true) (hv : Sl w v l) (hg : good q l = true) :
    Calls Try.prog 25 #[.int .i64 q, v] w fun e w' => e = .returned (.tuple #[.int .i64 (if nok q (fun i => l.getD i 0) l.length then nbr q (fun i => l.getD i 0) l.length l.length else 0), .bool (nok q (fun i => l.getD i 0) l.length)]) ∧ Below w.heap.size w w' := by
  have hq := isSz_le q h
  obtain ⟨hlen, hall⟩ := good_parts hg
  have HP := Lib.hid (validPoly_yes q v l w h hv hg)
  have HEL := Lib.hid (show ∀ i, i < l.length → 0 ≤ l.getD i 0 ∧ l.getD i 0 < q from fun i hi => by
    have hx := List.all_eq_true.1 hall (l.getD i 0) (by rw [show l.getD i 0 = l[i] by simp [List.getD, hi]]; exact List.getElem_mem hi)
    simpa [inF] using hx)
  by_cases h0 : 0 < l.length
  · obtain ⟨b, off, cap, rfl, hb, hc⟩ := hv.open rfl h0
    have HC := Lib.hid (show ∀ i, i < l.length → w.cell? ⟨b, off + i, none⟩ = some (.int .i64 (l.getD i 0)) from hc)
    clear hg hv h hall hc
    generalize hff : (fun i => l.getD i 0) = f at *
    have HC' : Hid (∀ i, i < l.length → w.cell? ⟨b, off + i, none⟩ = some (.int .i64 (f i))) := by subst hff; exact HC
    have HEL' : Hid (∀ i, i < l.length → 0 ≤ f i ∧ f i < q) := by subst hff; exact HEL
    clear HC HEL hff
    generalize l.length = n at *
    have HD := Lib.hid (fun g w => degreeE q g n n w (by omega))
    have HY : Hid ((∀ k, k ≤ n → nbr q f n k ≤ 999999) → (if nok q f n then nbr q f n n else 0) = nbr q f n n ∧ nok q f n = true) := Lib.hid fun h => by
      have e := nok_yes h
      exact ⟨by rw [if_pos e], e⟩
    have HNO : Hid (∀ k, k ≤ n → 999999 < nbr q f n k → (if nok q f n then nbr q f n n else 0) = 0 ∧ nok q f n = false) := Lib.hid fun k hk h => by
      have e := nok_no k hk h
      exact ⟨by rw [e]; rfl, e⟩
    generalize (if nok q f n then nbr q f n n else 0) = r at *
    generalize nok q f n = ok at *
    go_enter Try.func25, Try.ntmps25
    go_wp2_with fail
    refine HP.out.mono ?_
    rintro e w1 ⟨g, rfl, hg, hk, he, hb1⟩
    clear hk he
    have hz_hb1 := hb1.size; (try simp at hz_hb1)
    have HB1 := Lib.hid hb1; clear hb1
    go_wp2_with fail
    refine (HD.out _ _).mono ?_
    rintro e w2 ⟨rfl, hb2⟩
    have hz_hb2 := hb2.size; (try simp at hz_hb2)
    have HBS : Hid (Below w.heap.size w w2) := Lib.hid (by have hb1 := HB1.out; (repeat' (first | (with_reducible assumption) | (with_reducible exact Below.refl _ _) | (with_reducible refine below_drewN ?_ _) | (with_reducible refine Below.drew ?_) | (with_reducible refine Below.alloc ?_ ?_ _) | (with_reducible refine Below.setCell ?_ ?_ _) | (with_reducible refine Below.trans ?_ (Below.mono (by assumption) ?_)) | (with_reducible exact Nat.le_refl _) | (with_reducible assumption) | omega | (simp; omega) | (simp; done))))
    clear hb2
    go_wp2_with fail
    go_loopw [8, 9] (fun vs vi wr => ∃ k : Nat, k ≤ n ∧ vi = .int .i64 ((n : Int) - 1 - (k : Int)) ∧ vs = .int .i64 (nbr q f n k) ∧ 0 ≤ nbr q f n k ∧ (∀ j, j ≤ k → nbr q f n j ≤ 999999) ∧ Below w.heap.size w wr) (fun _ vi _ => (intOf vi + 1).toNat)
    case atStart => exact ⟨0, Nat.zero_le _, by simp, rfl, Int.le_refl _, fun j hj => by (obtain rfl : j = 0 := by omega); simp [nbr], HBS.out⟩
    case round =>
      obtain ⟨k, hk, rfl, rfl, hn0, hle, hbw⟩ := hrel
      have hlek := hle k (Nat.le_refl _)
      have HLE := Lib.hid hle; clear hle
      have HS : Hid (nbr q f n (k + 1) = nbr q f n k * q + f (n - 1 - k)) := Lib.hid rfl
      by_cases hlt : k < n
      · have hc := (hbw.cell (p := ⟨b, off + (n - 1 - k), none⟩) hb).trans (HC'.out (n - 1 - k) (by omega))
        obtain ⟨u0, u1⟩ := HEL'.out (n - 1 - k) (by omega)
        have hz : ((n : Int) - 1 - (k : Int)) = ((n - 1 - k : Nat) : Int) := by omega
        have HBW := Lib.hid hbw; clear hbw
        have m0 : 0 ≤ nbr q f n k * q := Int.mul_nonneg hn0 (by omega)
        have m1 : nbr q f n k * q ≤ 999999 * 16 := Int.mul_le_mul hlek (by omega) (by omega) (by omega)
        rw [hz]
        have hin : n - 1 - k < n := by omega
        generalize hi : n - 1 - k = i at *
        have HI := Lib.hid hi; clear hi hz
        generalize f i = u at *
        generalize hx : nbr q f n k = x at *
        by_cases hbig : 999999 < x * q + u
        · go_wp2
          go_ret2
          have e := HNO.out (k + 1) (by omega) (by rw [HS.out]; exact hbig)
          exact ⟨ret_ib e.1.symm e.2.symm, HBW.out⟩
        · go_wp2
          go_roundw
          case rel =>
            have hI := HI.out
            refine ⟨k + 1, by omega, by rw [← hI]; exact congrArg (Value.int .i64) (by omega), by rw [HS.out], by rw [HS.out]; omega, ?_, HBW.out⟩
            intro j hj
            by_cases e : j = k + 1
            · subst e; rw [HS.out]; omega
            · exact HLE.out j (by omega)
          case measure => (simp [intOf]; try omega)
      · obtain rfl : n = k := by omega
        have HBW := Lib.hid hbw; clear hbw
        have e := HY.out HLE.out
        have HE := Lib.hid e; clear e
        go_wp2
        go_ret2
        exact ⟨ret_ib HE.out.1.symm HE.out.2.symm, HBW.out⟩
  · obtain rfl : l = [] := List.length_eq_zero_iff.1 (by omega)
    obtain ⟨a, cap, rfl⟩ := hv.empty
    clear hg hv h hall HEL h0
    have HE : Hid ((if nok q (fun i => ([] : List Int).getD i 0) ([] : List Int).length then nbr q (fun i => ([] : List Int).getD i 0) ([] : List Int).length ([] : List Int).length else 0) = 0 ∧ nok q (fun i => ([] : List Int).getD i 0) ([] : List Int).length = true) := Lib.hid (by
      have e : nok q (fun i => ([] : List Int).getD i 0) ([] : List Int).length = true := nok_yes fun k hk => by
        obtain rfl : k = 0 := by simpa using hk
        simp [nbr]
      exact ⟨by rw [e]; rfl, e⟩)
    generalize (if nok q (fun i => ([] : List Int).getD i 0) ([] : List Int).length then nbr q (fun i => ([] : List Int).getD i 0) ([] : List Int).length ([] : List Int).length else 0) = r at *
    generalize nok q (fun i => ([] : List Int).getD i 0) ([] : List Int).length = ok at *
    have HD := Lib.hid (fun g w => degreeE q g 0 0 w (by omega))
    go_enter Try.func25, Try.ntmps25
    go_wp2_with fail
    refine HP.out.mono ?_
    rintro e w1 ⟨g, rfl, hg, hk, he, hb1⟩
    clear hk he
    have hz_hb1 := hb1.size; (try simp at hz_hb1)
    have HB1 := Lib.hid hb1; clear hb1
    go_wp2_with fail
    refine (HD.out _ _).mono ?_
    rintro e w2 ⟨rfl, hb2⟩
    have hz_hb2 := hb2.size; (try simp at hz_hb2)
    have HBS : Hid (Below w.heap.size w w2) := Lib.hid (by have hb1 := HB1.out; (repeat' (first | (with_reducible assumption) | (with_reducible exact Below.refl _ _) | (with_reducible refine below_drewN ?_ _) | (with_reducible refine Below.drew ?_) | (with_reducible refine Below.alloc ?_ ?_ _) | (with_reducible refine Below.setCell ?_ ?_ _) | (with_reducible refine Below.trans ?_ (Below.mono (by assumption) ?_)) | (with_reducible exact Nat.le_refl _) | (with_reducible assumption) | omega | (simp; omega) | (simp; done))))
    clear hb2
    go_wp2_with fail
    (refine wp_loop_rounds 1 ?_; repeat any_goals (rw [rounds_succ]; go_wp2))
    go_wp2
    go_ret2
    exact ⟨ret_ib HE.out.1.symm HE.out.2.symm, HBS.out⟩

theorem key_NumberOfPoly (q : Int) (l_f : List Int) (b_f : l_f.length ≤ 1048576) : ∃ (r : Int) (o : Bool), (∀ (w : World) (v_f : Value) (_ : Sl w v_f l_f), Calls Try.prog 24 #[.int .i64 q, v_f] w fun e w' => e = .returned (.tuple #[.int .i64 r, .bool o]) ∧ Below w.heap.size w w') ∧
      (∀ (w : World) (v_f : Value) (_ : Sl w v_f l_f), Calls Try.prog 25 #[.int .i64 q, v_f] w fun e w' => e = .returned (.tuple #[.int .i64 r, .bool o]) ∧ Below w.heap.size w w') := by
  cases h : isSz q && good q l_f with
  | false => exact ⟨_, _, fun w v hv => spec_NumberOfPoly_no q v l_f w hv b_f h, fun w v hv => impl_NumberOfPoly_no q v l_f w hv b_f h⟩
  | true =>
    simp only [Bool.and_eq_true] at h
    exact ⟨_, _, fun w v hv => spec_NumberOfPoly_yes q v l_f w h.1 hv h.2, fun w v hv => impl_NumberOfPoly_yes q v l_f w h.1 hv h.2⟩
set_option maxRecDepth 100000 in
set_option maxHeartbeats 4000000 in
/-- laws.FnExactNumberOfPoly. -/
theorem walk_FnExactNumberOfPoly (q : Int) (a_f : Option Addr) (n_f c_f : Nat) (z_f : List Int) (w : World) (_h_q : (Lit.int .i64 q).wf = true) (h_f : IsRow .i64 w a_f n_f c_f z_f) :
    Calls Try.prog 7 #[.int .i64 q, .slice a_f n_f c_f] w fun e w' => e = .returned (.bool true) ∧ Below w.heap.size w w' := by
  clear _h_q
  obtain ⟨hs_f, hl_f, _⟩ := h_f.sl
  generalize z_f.take n_f = l_f at *
  clear h_f
  subst hl_f
  by_cases b_f : l_f.length ≤ 1048576
  rotate_left
  · have hn_f : (1048576 : Int) < (l_f.length : Int) := by omega
    go_enter Try.func7, Try.ntmps7
    go_wp2
    go_ret
    exact ⟨rfl, Below.refl _ _⟩
  have hn_f : ¬ (1048576 : Int) < (l_f.length : Int) := by omega
  obtain ⟨r, o, k1, k2⟩ := key_NumberOfPoly q l_f b_f
  have K1 := Lib.hid k1; clear k1
  have K2 := Lib.hid k2; clear k2
  have HS_f := Lib.hid hs_f; clear hs_f
  have HB0 : Hid (Below w.heap.size w w) := Lib.hid (Below.refl _ _)
  go_enter Try.func7, Try.ntmps7
  go_wp2_with fail
  refine (toIntS_any _ l_f _ (HS_f.out.below HB0.out (Nat.le_refl _)) b_f).mono ?_
  rintro e w1 ⟨v_s_f, rfl, hrw1, hbw1⟩
  have hzw1 : w.heap.size ≤ w1.heap.size := hbw1.size
  have HBw1 : Hid (Below w.heap.size w w1) := Lib.hid (HB0.out.trans (hbw1.mono HB0.out.size))
  have hww1 := HBw1.out.size
  clear hbw1 HB0
  have R_s_f_w1 := Lib.hid hrw1; clear hrw1
  have lt_s_f : Hid (∀ g, v_s_f.ownBlock = some g → w.heap.size ≤ g ∧ g < w1.heap.size) := Lib.hid R_s_f_w1.out.lt
  go_wp2_with fail
  refine (K1.out _ v_s_f R_s_f_w1.out.sl).mono ?_
  rintro e w2 ⟨rfl, hbw2⟩
  have hzw2 : w1.heap.size ≤ w2.heap.size := hbw2.size
  have R_s_f_w2 := Lib.hid (R_s_f_w1.out.below hbw2)
  clear R_s_f_w1
  have HBw2 : Hid (Below w.heap.size w w2) := Lib.hid (HBw1.out.trans (hbw2.mono HBw1.out.size))
  have hww2 := HBw2.out.size
  clear hbw2 HBw1
  clear R_s_f_w2 lt_s_f
  go_wp2_with fail
  refine (toIntS_any _ l_f _ (HS_f.out.below HBw2.out (Nat.le_refl _)) b_f).mono ?_
  rintro e w3 ⟨v_x_f, rfl, hrw3, hbw3⟩
  have hzw3 : w2.heap.size ≤ w3.heap.size := hbw3.size
  have HBw3 : Hid (Below w.heap.size w w3) := Lib.hid (HBw2.out.trans (hbw3.mono HBw2.out.size))
  have hww3 := HBw3.out.size
  clear hbw3 HBw2
  have R_x_f_w3 := Lib.hid hrw3; clear hrw3
  have lt_x_f : Hid (∀ g, v_x_f.ownBlock = some g → w2.heap.size ≤ g ∧ g < w3.heap.size) := Lib.hid R_x_f_w3.out.lt
  go_wp2_with fail
  refine (K2.out _ v_x_f R_x_f_w3.out.sl).mono ?_
  rintro e w4 ⟨rfl, hbw4⟩
  have hzw4 : w3.heap.size ≤ w4.heap.size := hbw4.size
  have R_x_f_w4 := Lib.hid (R_x_f_w3.out.below hbw4)
  clear R_x_f_w3
  have HBw4 : Hid (Below w.heap.size w w4) := Lib.hid (HBw3.out.trans (hbw4.mono HBw3.out.size))
  have hww4 := HBw4.out.size
  clear hbw4 HBw3
  go_wp2_with fail
  refine (toIntS_any _ l_f _ (HS_f.out.below HBw4.out (Nat.le_refl _)) b_f).mono ?_
  rintro e w5 ⟨v_y_f, rfl, hrw5, hbw5⟩
  have hzw5 : w4.heap.size ≤ w5.heap.size := hbw5.size
  have R_x_f_w5 := Lib.hid (R_x_f_w4.out.below hbw5)
  clear R_x_f_w4
  have HBw5 : Hid (Below w.heap.size w w5) := Lib.hid (HBw4.out.trans (hbw5.mono HBw4.out.size))
  have hww5 := HBw5.out.size
  clear hbw5 HBw4
  have R_y_f_w5 := Lib.hid hrw5; clear hrw5
  have lt_y_f : Hid (∀ g, v_y_f.ownBlock = some g → w4.heap.size ≤ g ∧ g < w5.heap.size) := Lib.hid R_y_f_w5.out.lt
  go_wp2_with fail
  refine (eq_same v_x_f v_y_f l_f _ _ _ R_x_f_w5.out R_y_f_w5.out (by omega)).mono ?_
  rintro e w6 ⟨rfl, hbw6⟩
  have hzw6 : w5.heap.size ≤ w6.heap.size := hbw6.size
  have R_x_f_w6 := Lib.hid (R_x_f_w5.out.below hbw6)
  clear R_x_f_w5
  have R_y_f_w6 := Lib.hid (R_y_f_w5.out.below hbw6)
  clear R_y_f_w5
  have HBw6 : Hid (Below w.heap.size w w6) := Lib.hid (HBw5.out.trans (hbw6.mono HBw5.out.size))
  have hww6 := HBw6.out.size
  clear hbw6 HBw5
  clear R_y_f_w6 lt_y_f
  go_wp2
  go_ret
  exact ⟨rfl, HBw6.out⟩
end Go.Proofs.Ythklnfanbegecab
