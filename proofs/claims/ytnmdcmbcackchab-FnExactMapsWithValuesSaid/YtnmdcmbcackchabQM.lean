/- Tables with so many values, counted from place to place; plain arithmetic. -/
import Derived.Test.YtnmdcmbcackchabOA
namespace Go.Proofs.Ytnmdcmbcackchab
/-- One place more. -/
def wst (q : Nat) (c : Nat → Int) : Nat → Int := fun j => c j * j + (if j = 0 then 0 else c (j - 1) * ((q : Int) - j + 1))
/-- Tables of the first places with so many values. -/
def wy (q : Nat) : Nat → (Nat → Int)
  | 0 => fun n => if n = 0 then 1 else 0
  | x + 1 => wst q (wy q x)
theorem wy_bd (q : Nat) : ∀ x j, j ≤ q → 0 ≤ wy q x j ∧ wy q x j ≤ ((2 * q + 1) ^ x : Nat) := by
  intro x
  induction x with
  | zero =>
    intro j _
    show 0 ≤ (if j = 0 then (1 : Int) else 0) ∧ (if j = 0 then (1 : Int) else 0) ≤ _
    split <;> simp
  | succ x ih =>
    intro j hj
    have h1 := ih j hj
    have h2 := fun h : 0 < j => ih (j - 1) (by omega)
    show 0 ≤ wy q x j * j + (if j = 0 then 0 else wy q x (j - 1) * ((q : Int) - j + 1)) ∧ wy q x j * j + (if j = 0 then 0 else wy q x (j - 1) * ((q : Int) - j + 1)) ≤ (((2 * q + 1) ^ x * (2 * q + 1) : Nat) : Int)
    generalize (2 * q + 1) ^ x = W at *
    have e5 : ((W * (2 * q + 1) : Nat) : Int) = (W : Int) * (q : Int) + ((W : Int) * (q : Int) + (W : Int)) := by
      rw [Int.natCast_mul, show ((2 * q + 1 : Nat) : Int) = (q : Int) + ((q : Int) + 1) by omega, Int.mul_add, Int.mul_add, Int.mul_one]
    rw [e5]
    have e1 : 0 ≤ wy q x j * (j : Int) := Int.mul_nonneg h1.1 (by omega)
    have e2 : wy q x j * (j : Int) ≤ (W : Int) * (q : Int) := Int.mul_le_mul h1.2 (by omega) (by omega) (by omega)
    have hzq : (0 : Int) ≤ (W : Int) * (q : Int) := Int.mul_nonneg (by omega) (by omega)
    by_cases h0 : j = 0
    · rw [if_pos h0]
      generalize (W : Int) * (q : Int) = P at *
      generalize wy q x j * (j : Int) = R at *
      omega
    · rw [if_neg h0]
      have h3 := h2 (by omega)
      have e3 : 0 ≤ wy q x (j - 1) * ((q : Int) - j + 1) := Int.mul_nonneg h3.1 (by omega)
      have e4 : wy q x (j - 1) * ((q : Int) - j + 1) ≤ (W : Int) * (q : Int) := Int.mul_le_mul h3.2 (by omega) (by omega) (by omega)
      generalize (W : Int) * (q : Int) = P at *
      generalize wy q x j * (j : Int) = R at *
      generalize wy q x (j - 1) * ((q : Int) - j + 1) = R2 at *
      omega
theorem wy_small {q x j : Nat} (hq : q ≤ 13) (hx : x ≤ q) (hj : j ≤ q) : 0 ≤ wy q x j ∧ wy q x j ≤ 4052555153018976267 := by
  have h1 := wy_bd q x j hj
  have h2 : (2 * q + 1) ^ x ≤ (2 * 13 + 1) ^ 13 := Nat.le_trans (Nat.pow_le_pow_left (by omega) x) (Nat.pow_le_pow_right (by omega) (by omega))
  have h3 : (2 * 13 + 1) ^ 13 = 4052555153018976267 := by decide
  omega
/-- Parts of the step, as sums of two numbers that are not negative. -/
theorem wst_parts {q x j : Nat} (hj : j ≤ q) : 0 ≤ wy q x j * (j : Int) ∧ (0 < j → 0 ≤ wy q x (j - 1) * ((q : Int) - j + 1)) ∧ wy q (x + 1) j = wy q x j * (j : Int) + (if j = 0 then 0 else wy q x (j - 1) * ((q : Int) - j + 1)) := by
  have h1 := (wy_bd q x j hj).1
  refine ⟨Int.mul_nonneg h1 (by omega), fun h => Int.mul_nonneg (wy_bd q x (j - 1) (by omega)).1 (by omega), rfl⟩
/-- The program's row while it goes down: places from met on are done. -/
def wdn (q : Nat) (c : Nat → Int) (met : Nat) : Nat → Int := fun j => if met < j then wst q c j else c j
theorem wdn_step {q met : Nat} {c : Nat → Int} (_h : 0 < met) : upd (wdn q c met) met (wst q c met) = wdn q c (met - 1) := by
  funext j
  unfold upd wdn
  by_cases e : j = met
  · subst e
    rw [if_pos rfl, if_pos (by omega)]
  · rw [if_neg e]
    by_cases h : met < j
    · rw [if_pos h, if_pos (by omega)]
    · rw [if_neg h, if_neg (by omega)]
theorem wdn_zero (q : Nat) (c : Nat → Int) : upd (wdn q c 0) 0 0 = wst q c := by
  funext j
  unfold upd wdn
  by_cases e : j = 0
  · subst e
    rw [if_pos rfl]
    simp [wst]
  · rw [if_neg e, if_pos (by omega)]
/-- The model's next row, after n entries of the last. -/
def nxt (q : Nat) (c : Nat → Int) : Nat → (Nat → Int)
  | 0 => fun _ => 0
  | n + 1 => if n < q then upd (upd (nxt q c n) n (nxt q c n n + c n * n)) (n + 1) (upd (nxt q c n) n (nxt q c n n + c n * n) (n + 1) + c n * ((q : Int) - n)) else upd (nxt q c n) n (nxt q c n n + c n * n)
theorem nxt_form (q : Nat) (c : Nat → Int) : ∀ n, n ≤ q → ∀ j, nxt q c n j = if j < n then wst q c j else if j = n ∧ 0 < n then c (n - 1) * ((q : Int) - n + 1) else 0 := by
  intro n
  induction n with
  | zero =>
    intro _ j
    show (0 : Int) = _
    rw [if_neg (by omega), if_neg (by omega)]
  | succ n ih =>
    intro hn j
    have hi := ih (by omega)
    show (if n < q then upd (upd (nxt q c n) n (nxt q c n n + c n * n)) (n + 1) (upd (nxt q c n) n (nxt q c n n + c n * n) (n + 1) + c n * ((q : Int) - n)) else upd (nxt q c n) n (nxt q c n n + c n * n)) j = _
    rw [if_pos (by omega)]
    unfold upd
    by_cases e1 : j = n + 1
    · subst e1
      rw [if_pos rfl, if_neg (by omega), hi (n + 1), if_neg (by omega), if_neg (by omega), if_neg (by omega), if_pos ⟨rfl, by omega⟩, Nat.add_sub_cancel, Int.zero_add]
      congr 1
      omega
    · rw [if_neg e1]
      by_cases e2 : j = n
      · subst e2
        rw [if_pos rfl, if_pos (by omega), hi j, if_neg (by omega)]
        unfold wst
        by_cases e3 : j = 0
        · subst e3
          rw [if_neg (by omega), if_pos rfl]
          omega
        · rw [if_pos ⟨rfl, by omega⟩, if_neg e3]
          omega
      · rw [if_neg e2, hi j]
        by_cases e3 : j < n
        · rw [if_pos e3, if_pos (by omega)]
        · rw [if_neg e3, if_neg (by omega), if_neg (by omega), if_neg (by omega)]
theorem nxt_last (q : Nat) (c : Nat → Int) (j : Nat) (hj : j < q + 1) : nxt q c (q + 1) j = wst q c j := by
  have hi := nxt_form q c q (Nat.le_refl _)
  show (if q < q then _ else upd (nxt q c q) q (nxt q c q q + c q * q)) j = _
  rw [if_neg (by omega)]
  unfold upd
  by_cases e : j = q
  · subst e
    rw [if_pos rfl, hi j, if_neg (by omega)]
    unfold wst
    by_cases e3 : j = 0
    · subst e3
      rw [if_neg (by omega), if_pos rfl]
      omega
    · rw [if_pos ⟨rfl, by omega⟩, if_neg e3]
      omega
  · rw [if_neg e, hi j, if_pos (by omega)]
end Go.Proofs.Ytnmdcmbcackchab
