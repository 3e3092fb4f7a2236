/- DegreeOf and NumberOfPoly, of the program and of the model, by contracts; the walks of their laws. -/
import Derived.Test.YtljijnanmpajaaaGreatKJ
namespace Go.Proofs.YtljijnanmpajaaaGreat
open Go.RowKit
theorem ret_ib {a b : Int} {o p : Bool} (h : a = b) (h2 : o = p) : Ending.returned (.tuple #[.int .i64 a, .bool o]) = .returned (.tuple #[.int .i64 b, .bool p]) := by rw [h, h2]

theorem spec_DegreeOf_no (q : Int) (v : Value) (l : List Int) (w : World) (hv : Sl w v l) (hl : l.length ≤ 1048576) (hg : (isSz q && good q l) = false) :
    Calls Tryz.prog 12 #[.int .i64 q, v] w fun e w' => e = .returned (.tuple #[.int .i64 0, .bool false]) ∧ Below w.heap.size w w' := by
  have hp := plGood_any q v l w hv hl
  rw [hg] at hp
  have HP := Lib.hid hp
  clear hp hg hv hl
  go_enter Tryz.func12, Tryz.ntmps12
  go_wp2_with fail
  refine HP.out.mono ?_
  rintro e w1 ⟨rfl, hb1⟩
  go_wp2
  go_ret2
  exact ⟨rfl, hb1⟩
theorem impl_DegreeOf_no (q : Int) (v : Value) (l : List Int) (w : World) (hv : Sl w v l) (hl : l.length ≤ 1048576) (hg : (isSz q && good q l) = false) :
    Calls Tryz.prog 11 #[.int .i64 q, v] w fun e w' => e = .returned (.tuple #[.int .i64 0, .bool false]) ∧ Below w.heap.size w w' := by
  have HP := Lib.hid (validPoly_no q v l w hv hl hg)
  clear hg hv hl
  go_enter Tryz.func11, Tryz.ntmps11
  go_wp2_with fail
  refine HP.out.mono ?_
  rintro e w1 ⟨rfl, hb1⟩
  have hz_hb1 := hb1.size; (try simp at hz_hb1)
  have HB1 := Lib.hid hb1; clear hb1
  go_wp2_with fail
  go_ret2
  have hb1 := HB1.out
  exact ⟨rfl, by (repeat' (first | (with_reducible assumption) | (with_reducible exact Below.refl _ _) | (with_reducible refine below_drewN ?_ _) | (with_reducible refine Below.drew ?_) | (with_reducible refine Below.alloc ?_ ?_ _) | (with_reducible refine Below.setCell ?_ ?_ _) | (with_reducible refine Below.trans ?_ (Below.mono (by assumption) ?_)) | (with_reducible exact Nat.le_refl _) | (with_reducible assumption) | omega | (simp; omega) | (simp; done)))⟩

theorem spec_DegreeOf_yes (q : Int) (v : Value) (l : List Int) (w : World) (h : isSz q = true) (hv : Sl w v l) (hg : good q l = true) :
    Calls Tryz.prog 12 #[.int .i64 q, v] w fun e w' => e = .returned (.tuple #[.int .i64 ((l.length : Int) - 1), .bool true]) ∧ Below w.heap.size w w' := by
  have hq := isSz_le q h
  have hlen := (good_parts hg).1
  have hp := plGood_any q v l w hv (by omega)
  rw [h, hg] at hp
  have HP := Lib.hid hp
  obtain ⟨a, cap, rfl⟩ := hv.form
  clear hp hg hv h
  generalize l.length = n at *
  go_enter Tryz.func12, Tryz.ntmps12
  go_wp2_with fail
  refine HP.out.mono ?_
  rintro e w1 ⟨rfl, hb1⟩
  go_wp2
  go_ret2
  exact ⟨rfl, hb1⟩
set_option maxHeartbeats 1000000 in
theorem impl_DegreeOf_yes (q : Int) (v : Value) (l : List Int) (w : World) (h : isSz q = true) (hv : Sl w v l) (hg : good q l = true) :
    Calls Tryz.prog 11 #[.int .i64 q, v] w fun e w' => e = .returned (.tuple #[.int .i64 ((l.length : Int) - 1), .bool true]) ∧ Below w.heap.size w w' := by
  have hq := isSz_le q h
  have hlen := (good_parts hg).1
  have HP := Lib.hid (validPoly_yes q v l w h hv hg)
  clear hg hv h
  generalize (fun i => l.getD i 0) = f at *
  generalize l.length = n at *
  have HD := Lib.hid (fun g w => degreeE q g n n w (by omega))
  go_enter Tryz.func11, Tryz.ntmps11
  go_wp2_with fail
  refine HP.out.mono ?_
  rintro e w1 ⟨g, rfl, hg, hk, he, hb1⟩
  clear hk he
  have hz_hb1 := hb1.size; (try simp at hz_hb1)
  have HB1 := Lib.hid hb1; clear hb1
  go_wp2_with fail
  refine (HD.out _ _).mono ?_
  rintro e w2 ⟨rfl, hb2⟩
  have hz_hb2 := hb2.size; (try simp at hz_hb2)
  have HB2 := Lib.hid hb2; clear hb2
  go_wp2
  go_ret2
  have hb1 := HB1.out
  have hb2 := HB2.out
  exact ⟨rfl, by (repeat' (first | (with_reducible assumption) | (with_reducible exact Below.refl _ _) | (with_reducible refine below_drewN ?_ _) | (with_reducible refine Below.drew ?_) | (with_reducible refine Below.alloc ?_ ?_ _) | (with_reducible refine Below.setCell ?_ ?_ _) | (with_reducible refine Below.trans ?_ (Below.mono (by assumption) ?_)) | (with_reducible exact Nat.le_refl _) | (with_reducible assumption) | omega | (simp; omega) | (simp; done)))⟩

theorem key_DegreeOf (q : Int) (l_f : List Int) (b_f : l_f.length ≤ 1048576) : ∃ (r : Int) (o : Bool), (∀ (w : World) (v_f : Value) (_ : Sl w v_f l_f), Calls Tryz.prog 12 #[.int .i64 q, v_f] w fun e w' => e = .returned (.tuple #[.int .i64 r, .bool o]) ∧ Below w.heap.size w w') ∧
      (∀ (w : World) (v_f : Value) (_ : Sl w v_f l_f), Calls Tryz.prog 11 #[.int .i64 q, v_f] w fun e w' => e = .returned (.tuple #[.int .i64 r, .bool o]) ∧ Below w.heap.size w w') := by
  cases h : isSz q && good q l_f with
  | false => exact ⟨_, _, fun w v hv => spec_DegreeOf_no q v l_f w hv b_f h, fun w v hv => impl_DegreeOf_no q v l_f w hv b_f h⟩
  | true =>
    simp only [Bool.and_eq_true] at h
    exact ⟨_, _, fun w v hv => spec_DegreeOf_yes q v l_f w h.1 hv h.2, fun w v hv => impl_DegreeOf_yes q v l_f w h.1 hv h.2⟩
/-- The number of the k upper coefficients. -/
def nbr (q : Int) (f : Nat → Int) (n : Nat) : Nat → Int
  | 0 => 0
  | k + 1 => nbr q f n k * q + f (n - 1 - k)
/-- No part of the number is too great. -/
def nok (q : Int) (f : Nat → Int) (n : Nat) : Bool := (List.range (n + 1)).all fun k => decide (nbr q f n k ≤ 999999)
theorem nok_yes {q : Int} {f : Nat → Int} {n : Nat} (h : ∀ k, k ≤ n → nbr q f n k ≤ 999999) : nok q f n = true := by
  rw [nok, List.all_eq_true]
  intro k hk
  exact decide_eq_true (h k (by have := List.mem_range.1 hk; omega))
theorem nok_no {q : Int} {f : Nat → Int} {n : Nat} (k : Nat) (hk : k ≤ n) (h : 999999 < nbr q f n k) : nok q f n = false := by
  rw [nok, List.all_eq_false]
  exact ⟨k, List.mem_range.2 (by omega), by simp; omega⟩

end Go.Proofs.YtljijnanmpajaaaGreat
