/- Elements with a property: plain lists; spec.l1Put, SquaresOf, SubfieldOf and AllPrimitive by contracts. -/
import Derived.Test.YthklnfanbegecacCA
import Derived.Test.YthklnfanbegecacHB
namespace Go.Proofs.Ythklnfanbegecac
open Go.RowKit
/-- The numbers below n with a property. -/
def wh (P : Nat → Bool) (n : Nat) : List Int := ((List.range n).filter P).map fun a : Nat => (a : Int)
theorem wh_yes (P : Nat → Bool) (n : Nat) (h : P n = true) : wh P (n + 1) = wh P n ++ [(n : Int)] := by simp [wh, List.range_succ, List.filter_append, h]
theorem wh_no (P : Nat → Bool) (n : Nat) (h : P n = false) : wh P (n + 1) = wh P n := by simp [wh, List.range_succ, List.filter_append, h]
theorem wh_len (P : Nat → Bool) (n : Nat) : (wh P n).length ≤ n := by
  rw [wh, List.length_map]
  exact Nat.le_trans (List.length_filter_le _ _) (by simp)
/-- Insertion into an increasing list. -/
def cnt (l : List Int) (n : Int) : Nat := (l.takeWhile fun x => decide (x < n)).length
theorem cnt_le (l : List Int) (n : Int) : cnt l n ≤ l.length := (List.takeWhile_sublist _).length_le
theorem cnt_lt (l : List Int) (n : Int) (j : Nat) (h : j < cnt l n) : l.getD j 0 < n := by
  induction l generalizing j with
  | nil => simp [cnt] at h
  | cons x t ih =>
    by_cases hx : x < n
    · cases j with
      | zero => simpa using hx
      | succ j => simpa using ih j (by simp [cnt, hx] at h ⊢; omega)
    · simp [cnt, hx] at h
theorem cnt_at (l : List Int) (n : Int) (h : cnt l n < l.length) : ¬ l.getD (cnt l n) 0 < n := by
  induction l with
  | nil => simp at h
  | cons x t ih =>
    by_cases hx : x < n
    · have e : cnt (x :: t) n = cnt t n + 1 := by simp [cnt, hx]
      rw [e] at h ⊢
      simpa using ih (by simpa using h)
    · have e : cnt (x :: t) n = 0 := by simp [cnt, hx]
      rw [e]
      simpa using hx
def ins (l : List Int) (n : Int) : List Int := if cnt l n < l.length ∧ l.getD (cnt l n) 0 = n then l else l.take (cnt l n) ++ n :: l.drop (cnt l n)
theorem ins_len (l : List Int) (n : Int) : (ins l n).length ≤ l.length + 1 := by
  unfold ins
  have := cnt_le l n
  split
  · omega
  · simp; omega
/-- The squares of the first n elements, put in one after the other. -/
def sqTo (q : Int) : Nat → List Int
  | 0 => []
  | n + 1 => ins (sqTo q n) (mulF q (n : Int) (n : Int))
theorem sqTo_len (q : Int) (n : Nat) : (sqTo q n).length ≤ n := by
  induction n with
  | zero => exact Nat.le_refl _
  | succ n ih => have := ins_len (sqTo q n) (mulF q (n : Int) (n : Int)); simp only [sqTo]; omega
/-- a is a product of an element with itself. -/
def isSq (q a : Int) : Bool := (List.range q.toNat).any fun n => mulF q (n : Int) (n : Int) == a
set_option maxRecDepth 100000 in
theorem sq_model (q : Int) (h : isSz q = true) : sqTo q q.toNat = wh (fun a => isSq q (a : Int)) q.toNat :=
  of_decide_eq_true (of_chk0 (f := fun q => decide (sqTo q q.toNat = wh (fun a => isSq q (a : Int)) q.toNat)) (by decide +kernel) q h)

end Go.Proofs.Ythklnfanbegecac
