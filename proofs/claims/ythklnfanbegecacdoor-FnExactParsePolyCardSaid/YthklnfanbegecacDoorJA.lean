/- Texts of lists of small numbers. No program here. -/
import Derived.Lib.Join
import Derived.Lib.ItoaNum
import Derived.Test.YthklnfanbegecacDoorHA
namespace Go.Proofs.YthklnfanbegecacDoor
open Go.Lib
/-- The decimal text of a number. -/
def num (x : Int) : List UInt8 := decDigits x.toNat
theorem dec_ne (u : Nat) : decDigits u ≠ [] := by
  unfold decDigits
  split
  · simp
  · simp
/-- The first n numbers with commas between them. -/
def txt (f : Nat → Int) : Nat → List UInt8
  | 0 => []
  | i + 1 => if i = 0 then num (f i) else txt f i ++ (44 :: num (f i))
theorem txt_ne (f : Nat → Int) (n : Nat) (h : 0 < n) : txt f n ≠ [] := by
  cases n with
  | zero => omega
  | succ i =>
    unfold txt
    split
    · exact dec_ne _
    · simp
theorem join_snoc (xs : List (List UInt8)) (x sep : List UInt8) (h : xs ≠ []) : join (xs ++ [x]) sep = join xs sep ++ (sep ++ x) := by
  cases xs with
  | nil => exact absurd rfl h
  | cons y r =>
    rw [List.cons_append, join_cons, join_cons]
    simp [joinTail]
theorem txt_join (f : Nat → Int) (n : Nat) : join ((List.range n).map fun i => num (f i)) [44] = txt f n := by
  induction n with
  | zero => rfl
  | succ n ih =>
    rw [List.range_succ, List.map_append]
    by_cases h : n = 0
    · subst h
      show join [num (f 0)] [44] = num (f 0)
      exact join_one _ _
    · show join (_ ++ [num (f n)]) [44] = txt f (n + 1)
      rw [join_snoc _ _ _ (by simp; omega), ih]
      show txt f n ++ ([44] ++ num (f n)) = if n = 0 then num (f n) else txt f n ++ (44 :: num (f n))
      rw [if_neg h]
      rfl
theorem num_len (x : Int) (h0 : 0 ≤ x) (h1 : x < 100) : (num x).length ≤ 2 := by
  unfold num decDigits
  split
  · simp
  · unfold decDigits
    rw [dif_pos (by omega)]
    simp
theorem txt_len (f : Nat → Int) (n : Nat) (h : ∀ i, i < n → 0 ≤ f i ∧ f i < 100) : (txt f n).length ≤ 3 * n := by
  induction n with
  | zero => simp [txt]
  | succ n ih =>
    have h1 := ih fun i hi => h i (by omega)
    have h2 := num_len (f n) (h n (by omega)).1 (h n (by omega)).2
    unfold txt
    split
    · omega
    · simp
      omega
end Go.Proofs.YthklnfanbegecacDoor
