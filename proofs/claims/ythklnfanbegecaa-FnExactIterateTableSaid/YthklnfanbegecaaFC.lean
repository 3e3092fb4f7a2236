/- Elements with a property: plain lists; spec.l1Put, SquaresOf, SubfieldOf and AllPrimitive by contracts. -/
import Derived.Test.YthklnfanbegecaaCA
import Derived.Test.YthklnfanbegecaaHB
namespace Go.Proofs.Ythklnfanbegecaa
open Go.RowKit
/-- The numbers below n with a property. -/
def wh (P : Nat → Bool) (n : Nat) : List Int := ((List.range n).filter P).map fun a : Nat => (a : Int)
theorem wh_yes (P : Nat → Bool) (n : Nat) (h : P n = true) : wh P (n + 1) = wh P n ++ [(n : Int)] := by simp [wh, List.range_succ, List.filter_append, h]
theorem wh_no (P : Nat → Bool) (n : Nat) (h : P n = false) : wh P (n + 1) = wh P n := by simp [wh, List.range_succ, List.filter_append, h]
theorem wh_len (P : Nat → Bool) (n : Nat) : (wh P n).length ≤ n := by
  rw [wh, List.length_map]
  exact Nat.le_trans (List.length_filter_le _ _) (by simp)
/-- Insertion into an increasing list. -/
def cnt (l : List Int) (n : Int) : Nat := (l.takeWhile fun x => decide (x < n)).length
theorem cnt_le (l : List Int) (n : Int) : cnt l n ≤ l.length := (List.takeWhile_sublist _).length_le
theorem cnt_lt (l : List Int) (n : Int) (j : Nat) (h : j < cnt l n) : l.getD j 0 < n := by
  induction l generalizing j with
  | nil => simp [cnt] at h
  | cons x t ih =>
    by_cases hx : x < n
    · cases j with
      | zero => simpa using hx
      | succ j => simpa using ih j (by simp [cnt, hx] at h ⊢; omega)
    · simp [cnt, hx] at h
theorem cnt_at (l : List Int) (n : Int) (h : cnt l n < l.length) : ¬ l.getD (cnt l n) 0 < n := by
  induction l with
  | nil => simp at h
  | cons x t ih =>
    by_cases hx : x < n
    · have e : cnt (x :: t) n = cnt t n + 1 := by simp [cnt, hx]
      rw [e] at h ⊢
      simpa using ih (by simpa using h)
    · have e : cnt (x :: t) n = 0 := by simp [cnt, hx]
      rw [e]
      simpa using hx
def ins (l : List Int) (n : Int) : List Int := if cnt l n < l.length ∧ l.getD (cnt l n) 0 = n then l else l.take (cnt l n) ++ n :: l.drop (cnt l n)
theorem ins_len (l : List Int) (n : Int) : (ins l n).length ≤ l.length + 1 := by
  unfold ins
  have := cnt_le l n
  split
  · omega
  · simp; omega
/-- The squares of the first n elements, put in one after the other. -/
def sqTo (q : Int) : Nat → List Int
  | 0 => []
  | n + 1 => ins (sqTo q n) (mulF q (n : Int) (n : Int))
theorem sqTo_len (q : Int) (n : Nat) : (sqTo q n).length ≤ n := by
  induction n with
  | zero => exact Nat.le_refl _
  | succ n ih => have := ins_len (sqTo q n) (mulF q (n : Int) (n : Int)); simp only [sqTo]; omega
/-- a is a product of an element with itself. -/
def isSq (q a : Int) : Bool := (List.range q.toNat).any fun n => mulF q (n : Int) (n : Int) == a
set_option maxRecDepth 100000 in
theorem sq_model (q : Int) (h : isSz q = true) : sqTo q q.toNat = wh (fun a => isSq q (a : Int)) q.toNat :=
  of_decide_eq_true (of_chk0 (f := fun q => decide (sqTo q q.toNat = wh (fun a => isSq q (a : Int)) q.toNat)) (by decide +kernel) q h)

/-- spec.AllPrimitive. -/
theorem spec_AllPrimitive_yes (q : Int) (w : World) (h : isSz q = true) :
    Calls Try.prog 13 #[.int .i64 q] w fun e w' => ∃ v, e = .returned (.tuple #[v, .bool true]) ∧ Row w' w.heap.size v (primTo q q.toNat) ∧ Below w.heap.size w w' := by
  have HC := Lib.hid (fun w => fdPrimitive_any q w h)
  go_enter Try.func13, Try.ntmps13
  go_wp2_with fail
  refine (fdSize_any _ _).mono ?_
  rintro e w1 ⟨rfl, hb1⟩
  have hz_hb1 := hb1.size; (try simp at hz_hb1)
  go_wp2_with fail
  refine (HC.out _).mono ?_
  rintro e w2 ⟨v, rfl, hr, hb2⟩
  have hz_hb2 := hb2.size; (try simp at hz_hb2)
  have HR := Lib.hid hr; clear hr
  go_wp2
  go_ret2
  exact ⟨_, rfl, HR.out.mono hz_hb1, by (repeat' (first | (with_reducible assumption) | (with_reducible exact Below.refl _ _) | (with_reducible refine below_drewN ?_ _) | (with_reducible refine Below.drew ?_) | (with_reducible refine Below.alloc ?_ ?_ _) | (with_reducible refine Below.setCell ?_ ?_ _) | (with_reducible refine Below.trans ?_ (Below.mono (by assumption) ?_)) | (with_reducible exact Nat.le_refl _) | (with_reducible assumption) | omega | (simp; omega) | (simp; done)))⟩
theorem spec_AllPrimitive_no (q : Int) (w : World) (h : isSz q = false) :
    Calls Try.prog 13 #[.int .i64 q] w fun e w' => e = .returned (.tuple #[.slice none 0 0, .bool false]) ∧ Below w.heap.size w w' := by
  go_enter Try.func13, Try.ntmps13
  go_wp2_with fail
  refine (fdSize_any _ _).mono ?_
  rintro e w1 ⟨rfl, hb1⟩
  have hz_hb1 := hb1.size; (try simp at hz_hb1)
  go_wp2_with fail
  go_ret2
  exact ⟨rfl, by (repeat' (first | (with_reducible assumption) | (with_reducible exact Below.refl _ _) | (with_reducible refine below_drewN ?_ _) | (with_reducible refine Below.drew ?_) | (with_reducible refine Below.alloc ?_ ?_ _) | (with_reducible refine Below.setCell ?_ ?_ _) | (with_reducible refine Below.trans ?_ (Below.mono (by assumption) ?_)) | (with_reducible exact Nat.le_refl _) | (with_reducible assumption) | omega | (simp; omega) | (simp; done)))⟩
end Go.Proofs.Ythklnfanbegecaa
