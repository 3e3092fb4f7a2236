/- Places of values, counted: plain arithmetic. -/
import Derived.Test.YtimpgbifnijkkabGreatKA
namespace Go.Proofs.YtimpgbifnijkkabGreat
/-- How often each element is among the first entries. -/
def oc (t : Nat → Int) : Nat → (Nat → Int)
  | 0 => fun _ => 0
  | n + 1 => upd (oc t n) (t n).toNat (oc t n (t n).toNat + 1)
theorem oc_succ (t : Nat → Int) (n k : Nat) (h : t n = (k : Int)) : oc t (n + 1) = upd (oc t n) k (oc t n k + 1) := by
  show upd (oc t n) (t n).toNat (oc t n (t n).toNat + 1) = _
  rw [h, Int.toNat_natCast]
theorem oc_bd (t : Nat → Int) : ∀ n y, 0 ≤ oc t n y ∧ oc t n y ≤ n := by
  intro n
  induction n with
  | zero => intro y; exact ⟨Int.le_refl 0, Int.le_refl 0⟩
  | succ n ih =>
    intro y
    have h1 := ih y
    have h2 := ih (t n).toNat
    show 0 ≤ upd (oc t n) (t n).toNat (oc t n (t n).toNat + 1) y ∧ upd (oc t n) (t n).toNat (oc t n (t n).toNat + 1) y ≤ _
    unfold upd
    split <;> omega
theorem oc_out {t : Nat → Int} {m : Nat} : ∀ n, (∀ i, i < n → El (m : Int) (t i)) → ∀ y, m ≤ y → oc t n y = 0 := by
  intro n
  induction n with
  | zero => intro _ y _; rfl
  | succ n ih =>
    intro ht y hy
    have h1 := ih (fun i hi => ht i (by omega)) y hy
    have h2 := ht n (by omega)
    have h3 := h2.1
    have h4 := h2.2
    show upd (oc t n) (t n).toNat (oc t n (t n).toNat + 1) y = 0
    unfold upd
    rw [if_neg (by omega)]
    exact h1
/-- An element that has places. -/
def mt (t : Nat → Int) (n y : Nat) : Bool := decide (0 < oc t n y)
/-- Pairs alike. -/
def pa (c : Nat → Int) : Nat → Int
  | 0 => 0
  | k + 1 => pa c k + (c k * (c k - 1)).tdiv 2
theorem half_bd (x : Int) (h0 : 0 ≤ x) (h1 : x ≤ 16) : 0 ≤ (x * (x - 1)).tdiv 2 ∧ (x * (x - 1)).tdiv 2 ≤ 120 ∧ 0 ≤ x * (x - 1) ∧ x * (x - 1) ≤ 240 := by
  obtain ⟨n, rfl⟩ := Int.eq_ofNat_of_zero_le h0
  have hn : n ≤ 16 := by omega
  have : ∀ n : Fin 17, 0 ≤ (((n.val : Nat) : Int) * (((n.val : Nat) : Int) - 1)).tdiv 2 ∧ (((n.val : Nat) : Int) * (((n.val : Nat) : Int) - 1)).tdiv 2 ≤ 120 ∧ 0 ≤ ((n.val : Nat) : Int) * (((n.val : Nat) : Int) - 1) ∧ ((n.val : Nat) : Int) * (((n.val : Nat) : Int) - 1) ≤ 240 := by decide
  exact this ⟨n, by omega⟩
theorem pa_bd {c : Nat → Int} (h : ∀ y, 0 ≤ c y ∧ c y ≤ 16) : ∀ k, 0 ≤ pa c k ∧ pa c k ≤ 120 * k := by
  intro k
  induction k with
  | zero => exact ⟨Int.le_refl 0, Int.le_refl 0⟩
  | succ k ih =>
    have h1 := half_bd (c k) (h k).1 (h k).2
    show 0 ≤ pa c k + _ ∧ pa c k + _ ≤ _
    omega
theorem pa_out {c : Nat → Int} {m : Nat} (h : ∀ y, m ≤ y → c y = 0) : ∀ d, pa c (m + d) = pa c m := by
  intro d
  induction d with
  | zero => rfl
  | succ d ih =>
    show pa c (m + d) + (c (m + d) * (c (m + d) - 1)).tdiv 2 = _
    rw [ih, h (m + d) (by omega)]
    simp
/-- Two places for each value, but for one at most: what is left to look at, and how many had one place. -/
def tw (c : Nat → Int) : Nat → Nat → Nat → Bool
  | _, 0, a => decide (a ≤ 1)
  | i, n + 1, a => if 2 < c i then false else tw c (i + 1) n (if c i = 1 then a + 1 else a)
theorem tw_zero {c : Nat → Int} : ∀ n i a, (∀ y, i ≤ y → c y = 0) → tw c i n a = decide (a ≤ 1) := by
  intro n
  induction n with
  | zero => intro i a _; rfl
  | succ n ih =>
    intro i a h
    show (if 2 < c i then false else tw c (i + 1) n (if c i = 1 then a + 1 else a)) = _
    rw [h i (Nat.le_refl _), if_neg (by omega), if_neg (by omega)]
    exact ih (i + 1) a fun y hy => h y (by omega)
theorem tw_out {c : Nat → Int} {m d : Nat} (h : ∀ y, m ≤ y → c y = 0) : ∀ n i a, i + n = m → tw c i (n + d) a = tw c i n a := by
  intro n
  induction n with
  | zero =>
    intro i a hi
    rw [Nat.zero_add, tw_zero d i a fun y hy => h y (by omega)]
    rfl
  | succ n ih =>
    intro i a hi
    rw [Nat.succ_add]
    show (if 2 < c i then false else tw c (i + 1) (n + d) (if c i = 1 then a + 1 else a)) = (if 2 < c i then false else tw c (i + 1) n (if c i = 1 then a + 1 else a))
    rw [ih (i + 1) _ (by omega)]
/-- The first k with a sum other than 0. -/
def fm (s : Nat → Int) : Nat → Nat → Int × Bool
  | _, 0 => (0, false)
  | k, n + 1 => if s k = 0 then fm s (k + 1) n else ((k : Int), true)
theorem fm_no {s : Nat → Int} {k n : Nat} (hn : 0 < n) (h : s k = 0) : fm s k n = fm s (k + 1) (n - 1) := by
  obtain ⟨j, rfl⟩ : ∃ j, n = j + 1 := ⟨n - 1, by omega⟩
  show (if s k = 0 then fm s (k + 1) j else ((k : Int), true)) = _
  rw [if_pos h]
  rfl
theorem fm_yes {s : Nat → Int} {k n : Nat} (hn : 0 < n) (h : s k ≠ 0) : fm s k n = ((k : Int), true) := by
  obtain ⟨j, rfl⟩ : ∃ j, n = j + 1 := ⟨n - 1, by omega⟩
  show (if s k = 0 then fm s (k + 1) j else ((k : Int), true)) = _
  rw [if_neg h]
theorem tw_big {c : Nat → Int} {i n a : Nat} (hn : 0 < n) (h : 2 < c i) : tw c i n a = false := by
  obtain ⟨j, rfl⟩ : ∃ j, n = j + 1 := ⟨n - 1, by omega⟩
  show (if 2 < c i then false else tw c (i + 1) j (if c i = 1 then a + 1 else a)) = _
  rw [if_pos h]
theorem tw_one {c : Nat → Int} {i n a : Nat} (hn : 0 < n) (h : c i = 1) : tw c i n a = tw c (i + 1) (n - 1) (a + 1) := by
  obtain ⟨j, rfl⟩ : ∃ j, n = j + 1 := ⟨n - 1, by omega⟩
  show (if 2 < c i then false else tw c (i + 1) j (if c i = 1 then a + 1 else a)) = _
  rw [if_neg (by omega), if_pos h]
  rfl
theorem tw_oth {c : Nat → Int} {i n a : Nat} (hn : 0 < n) (h : ¬ 2 < c i) (h1 : ¬ c i = 1) : tw c i n a = tw c (i + 1) (n - 1) a := by
  obtain ⟨j, rfl⟩ : ∃ j, n = j + 1 := ⟨n - 1, by omega⟩
  show (if 2 < c i then false else tw c (i + 1) j (if c i = 1 then a + 1 else a)) = _
  rw [if_neg h, if_neg h1]
  rfl
end Go.Proofs.YtimpgbifnijkkabGreat
