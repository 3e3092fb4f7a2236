/- Complete tables that go on a list, and level by level (no program). -/
import Derived.Test.YtapglncgicfjnabGreatKA
namespace Go.Proofs.YtapglncgicfjnabGreat
/-- Whether y may follow t. -/
def fit (m : Nat) (t : List Int) (y : Int) : Bool := (List.range t.length).all fun i => decide (t.getD i 0 ≠ y) && decide (addF m (t.getD i 0) (i : Int) ≠ addF m y (t.length : Int))
theorem fit_yes {m : Nat} {t : List Int} {y : Int} (h : fit m t y = true) (i : Nat) (hi : i < t.length) : t.getD i 0 ≠ y ∧ addF m (t.getD i 0) (i : Int) ≠ addF m y (t.length : Int) := by
  have := List.all_eq_true.1 h i (List.mem_range.2 hi)
  simpa using this
theorem fit_of {m : Nat} {t : List Int} {y : Int} (h : ∀ i, i < t.length → t.getD i 0 ≠ y ∧ addF m (t.getD i 0) (i : Int) ≠ addF m y (t.length : Int)) : fit m t y = true :=
  List.all_eq_true.2 fun i hi => by
    have := h i (List.mem_range.1 hi)
    simp only [Bool.and_eq_true, decide_eq_true_eq]
    exact this
theorem fit_no {m : Nat} {t : List Int} {y : Int} {i : Nat} (hi : i < t.length) (h : t.getD i 0 = y ∨ addF m (t.getD i 0) (i : Int) = addF m y (t.length : Int)) : fit m t y = false := by
  cases hf : fit m t y with
  | false => rfl
  | true =>
    obtain ⟨h1, h2⟩ := fit_yes hf i hi
    rcases h with h | h
    · exact absurd h h1
    · exact absurd h h2
/-- The lists that follow t, with a number less than k behind it. -/
def nx (m : Nat) (t : List Int) : Nat → List (List Int)
  | 0 => []
  | k + 1 => if fit m t (k : Int) then nx m t k ++ [t ++ [(k : Int)]] else nx m t k
theorem nx_len (m : Nat) (t : List Int) (k : Nat) : (nx m t k).length ≤ k := by
  induction k with
  | zero => exact Nat.le_refl _
  | succ k ih =>
    rw [nx]
    split
    · rw [List.length_append]
      simp
      exact ih
    · omega
/-- A list that is begun: with 0 in front, of elements. -/
structure Bgn (m : Nat) (t : List Int) : Prop where
  pos : 1 ≤ t.length
  zero : t.getD 0 0 = 0
  els : ∀ i, 0 ≤ t.getD i 0 ∧ t.getD i 0 < (m : Int)
theorem bgn0 {m : Nat} (hm : 2 ≤ m) : Bgn m [0] := ⟨by decide, rfl, fun i => by
  match i with
  | 0 => exact ⟨Int.le_refl _, by show (0 : Int) < m; omega⟩
  | i + 1 => exact ⟨Int.le_refl _, by show (0 : Int) < m; omega⟩⟩
theorem getD_app {t : List Int} {y : Int} (i : Nat) : (t ++ [y]).getD i 0 = if i < t.length then t.getD i 0 else if i = t.length then y else 0 := by
  simp only [List.getD]
  by_cases h : i < t.length
  · rw [if_pos h, List.getElem?_append_left h]
  · rw [if_neg h, List.getElem?_append_right (by omega)]
    by_cases e : i = t.length
    · subst e; simp
    · rw [if_neg e, List.getElem?_eq_none (by simp; omega)]
      rfl
theorem Bgn.app {m k : Nat} {t : List Int} (h : Bgn m t) (hk : k < m) : Bgn m (t ++ [(k : Int)]) := by
  refine ⟨by rw [List.length_append]; simp, ?_, fun i => ?_⟩
  · rw [getD_app, if_pos (by have := h.pos; omega)]
    exact h.zero
  · rw [getD_app]
    split
    · exact h.els i
    · split <;> omega
theorem nx_one {m : Nat} {t : List Int} (h : Bgn m t) : nx m t 1 = [] := by
  have : fit m t ((0 : Nat) : Int) = false := fit_no (i := 0) (by have := h.pos; omega) (.inl h.zero)
  rw [nx, this]
  rfl
theorem nx_mem {m : Nat} {t u : List Int} (h : Bgn m t) : ∀ k, k ≤ m → u ∈ nx m t k → Bgn m u ∧ u.length = t.length + 1 := by
  intro k
  induction k with
  | zero => intro _ hu; cases hu
  | succ k ih =>
    intro hk hu
    rw [nx] at hu
    split at hu
    · rcases List.mem_append.1 hu with hu | hu
      · exact ih (by omega) hu
      · rw [List.mem_singleton] at hu
        subst hu
        exact ⟨h.app (by omega), by rw [List.length_append]; rfl⟩
    · exact ih (by omega) hu
/-- All complete tables that go on a list, d more places. -/
def cmA (m : Nat) : Nat → List Int → List (List Int)
  | 0, t => [t]
  | d + 1, t => (nx m t m).flatMap (cmA m d)
theorem flatMap_len {l : List (List Int)} {f : List Int → List (List Int)} {c : Nat} (h : ∀ x, (f x).length ≤ c) : (l.flatMap f).length ≤ l.length * c := by
  induction l with
  | nil => simp
  | cons x l ih =>
    rw [List.flatMap_cons, List.length_append, List.length_cons, Nat.succ_mul]
    have := h x
    omega
theorem cmA_len (m d : Nat) : ∀ t, (cmA m d t).length ≤ m ^ d := by
  induction d with
  | zero => intro t; simp [cmA]
  | succ d ih =>
    intro t
    have h1 := flatMap_len (l := nx m t m) (f := cmA m d) ih
    have h2 := nx_len m t m
    have h3 : (nx m t m).length * m ^ d ≤ m * m ^ d := Nat.mul_le_mul h2 (Nat.le_refl _)
    rw [cmA, Nat.pow_succ, Nat.mul_comm (m ^ d) m]
    omega
theorem cmA_part (m d k : Nat) (t : List Int) (hk : k ≤ m) : ((nx m t k).flatMap (cmA m d)).length ≤ m ^ (d + 1) := by
  have h1 := flatMap_len (l := nx m t k) (f := cmA m d) (cmA_len m d)
  have h2 := nx_len m t k
  have h3 : (nx m t k).length * m ^ d ≤ m * m ^ d := Nat.mul_le_mul (by omega) (Nat.le_refl _)
  rw [Nat.pow_succ, Nat.mul_comm (m ^ d) m]
  omega
theorem pow_few8 {m d : Nat} (h : m ≤ 8) (hd : d ≤ 8) : m ^ d ≤ 16777216 := by
  have h1 : m ^ d ≤ 8 ^ d := Nat.pow_le_pow_left h d
  have h2 : 8 ^ d ≤ 8 ^ 8 := Nat.pow_le_pow_right (by omega) hd
  exact Nat.le_trans h1 (Nat.le_trans h2 (by decide))
/-- All lists of k + 1 places that are begun. -/
def lvl (m : Nat) : Nat → List (List Int)
  | 0 => [[0]]
  | k + 1 => (lvl m k).flatMap fun t => nx m t m
theorem lvl_len (m k : Nat) : (lvl m k).length ≤ m ^ k := by
  induction k with
  | zero => simp [lvl]
  | succ k ih =>
    have h1 := flatMap_len (l := lvl m k) (f := fun t => nx m t m) (fun t => nx_len m t m)
    have h3 : (lvl m k).length * m ≤ m ^ k * m := Nat.mul_le_mul ih (Nat.le_refl _)
    rw [lvl, Nat.pow_succ]
    omega
theorem lvl_mem {m : Nat} (hm : 2 ≤ m) : ∀ k u, u ∈ lvl m k → Bgn m u ∧ u.length = k + 1 := by
  intro k
  induction k with
  | zero =>
    intro u hu
    rw [lvl, List.mem_singleton] at hu
    subst hu
    exact ⟨bgn0 hm, rfl⟩
  | succ k ih =>
    intro u hu
    rw [lvl, List.mem_flatMap] at hu
    obtain ⟨t, ht, hu⟩ := hu
    obtain ⟨h1, h2⟩ := ih t ht
    obtain ⟨h3, h4⟩ := nx_mem h1 m (Nat.le_refl _) hu
    exact ⟨h3, by omega⟩
theorem lvl_cmA (m d : Nat) : ∀ k, (lvl m k).flatMap (cmA m d) = lvl m (k + d) := by
  induction d with
  | zero =>
    intro k
    have : cmA m 0 = fun t => [t] := by funext t; rfl
    rw [this]
    induction lvl m k with
    | nil => rfl
    | cons x l ih => rw [List.flatMap_cons, ih]; rfl
  | succ d ih =>
    intro k
    have e : (lvl m k).flatMap (cmA m (d + 1)) = ((lvl m k).flatMap fun t => nx m t m).flatMap (cmA m d) := by
      rw [List.flatMap_assoc]
      rfl
    rw [e]
    have := ih (k + 1)
    rw [lvl] at this
    rw [this]
    congr 1
    omega
/-- All fixed complete tables. -/
def cmT (m : Nat) : List (List Int) := lvl m (m - 1)
theorem cmT_A {m : Nat} : cmA m (m - 1) [0] = cmT m := by
  have := lvl_cmA m (m - 1) 0
  rw [Nat.zero_add] at this
  rw [cmT, ← this]
  simp [lvl]
theorem cmT_mem {m : Nat} (hm : 2 ≤ m) {u : List Int} (hu : u ∈ cmT m) : Bgn m u ∧ u.length = m := by
  obtain ⟨h1, h2⟩ := lvl_mem hm _ u hu
  exact ⟨h1, by omega⟩
/-- The lists of a family, one behind the other. -/
theorem nx_succ_yes {m k : Nat} {t : List Int} (h : fit m t (k : Int) = true) : nx m t (k + 1) = nx m t k ++ [t ++ [(k : Int)]] := by rw [nx, if_pos h]
theorem nx_succ_no {m k : Nat} {t : List Int} (h : fit m t (k : Int) = false) : nx m t (k + 1) = nx m t k := by rw [nx, if_neg (by rw [h]; decide)]
end Go.Proofs.YtapglncgicfjnabGreat
