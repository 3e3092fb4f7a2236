/- The first two elements with one value; the cycles of a map, as walked: arithmetic. -/
import Derived.Test.YtapglncgicfjnabGreatLA
namespace Go.Proofs.YtapglncgicfjnabGreat
/-- The first two with one value, as told. -/
structure Cla (t : Nat → Int) (m : Nat) (ra rb : Int) (ro : Bool) : Prop where
  yes : ∀ a b : Nat, a < b → b < m → (∀ i, i < a → ∀ j, i < j → j < m → t i ≠ t j) → (∀ j, a < j → j < b → t a ≠ t j) → t a = t b → ra = a ∧ rb = b ∧ ro = true
  no : (∀ i, i < m → ∀ j, i < j → j < m → t i ≠ t j) → ra = 0 ∧ rb = 0 ∧ ro = false
theorem least_of {P : Nat → Prop} (n : Nat) (h : P n) : ∃ a, a ≤ n ∧ P a ∧ ∀ i, i < a → ¬ P i := by
  induction n using Nat.strongRecOn with
  | ind n ih =>
    by_cases hn : ∃ i, i < n ∧ P i
    · obtain ⟨i, hi, hp⟩ := hn
      obtain ⟨a, ha, hpa, hl⟩ := ih i hi hp
      exact ⟨a, by omega, hpa, hl⟩
    · exact ⟨n, Nat.le_refl _, h, fun i hi hp => hn ⟨i, hi, hp⟩⟩
theorem cla_is (t : Nat → Int) (m : Nat) : ∃ ra rb ro, Cla t m ra rb ro := by
  by_cases h : ∃ a, ∃ b, a < b ∧ b < m ∧ t a = t b
  · obtain ⟨a0, ha0⟩ := h
    obtain ⟨a, _, ⟨b0, hb0⟩, hl⟩ := least_of (P := fun a => ∃ b, a < b ∧ b < m ∧ t a = t b) a0 ha0
    obtain ⟨b, _, ⟨h1, h2, h3⟩, hb⟩ := least_of (P := fun b => a < b ∧ b < m ∧ t a = t b) b0 hb0
    refine ⟨a, b, true, ?_, ?_⟩
    · intro a' b' c1 c2 c3 c4 c5
      have e : a' = a := by
        rcases Nat.lt_trichotomy a' a with x | x | x
        · exact absurd ⟨b', c1, c2, c5⟩ (hl a' x)
        · exact x
        · exact absurd h3 (c3 a x b h1 h2)
      subst e
      have e : b' = b := by
        rcases Nat.lt_trichotomy b' b with x | x | x
        · exact absurd ⟨c1, c2, c5⟩ (hb b' x)
        · exact x
        · exact absurd h3 (c4 b h1 x)
      subst e
      exact ⟨rfl, rfl, rfl⟩
    · intro hn
      exact absurd h3 (hn a (by omega) b h1 h2)
  · refine ⟨0, 0, false, ?_, fun _ => ⟨rfl, rfl, rfl⟩⟩
    intro a b c1 c2 _ _ c5
    exact absurd ⟨a, b, c1, c2, c5⟩ h
/-- Without one. -/
def off (S : Nat → Bool) (x : Nat) : Nat → Bool := fun y => S y && !decide (y = x)
theorem off_at (S : Nat → Bool) (x : Nat) : off S x x = false := by simp [off]
theorem off_ne (S : Nat → Bool) {x y : Nat} (h : y ≠ x) : off S x y = S y := by simp [off, h]
/-- How many of the first m. -/
def cnS (m : Nat) (S : Nat → Bool) : Nat := ((List.range m).filter S).length
theorem cnS_le (m : Nat) (S : Nat → Bool) : cnS m S ≤ m := by
  have := List.length_filter_le S (List.range m)
  simpa [cnS] using this
theorem cnS_pos {m x : Nat} {S : Nat → Bool} (hx : x < m) (h : S x = true) : 0 < cnS m S :=
  List.length_pos_of_mem (List.mem_filter.2 ⟨List.mem_range.2 hx, h⟩)
theorem cnS_none {m : Nat} {S : Nat → Bool} (h : cnS m S = 0) : ∀ x, x < m → S x = false := fun x hx => by
  cases hs : S x with
  | false => rfl
  | true => have := cnS_pos hx hs; omega
theorem cnS_succ (m : Nat) (S : Nat → Bool) : cnS (m + 1) S = cnS m S + (if S m then 1 else 0) := by
  unfold cnS
  rw [List.range_succ, List.filter_append, List.length_append]
  congr 1
  cases h : S m <;> simp [List.filter, h]
theorem cnS_congr {m : Nat} {S R : Nat → Bool} (h : ∀ x, x < m → S x = R x) : cnS m S = cnS m R := by
  induction m with
  | zero => rfl
  | succ n ih => rw [cnS_succ, cnS_succ, ih fun x hx => h x (by omega), h n (by omega)]
theorem cnS_off {m x : Nat} {S : Nat → Bool} (hx : x < m) (h : S x = true) : cnS m S = cnS m (off S x) + 1 := by
  induction m with
  | zero => omega
  | succ n ih =>
    rw [cnS_succ, cnS_succ]
    by_cases e : x = n
    · subst e
      rw [off_at, h, cnS_congr (R := S) (S := off S x) (fun y hy => off_ne S (by omega))]
      simp
    · rw [ih (by omega), off_ne S (x := x) (y := n) (fun e' => e e'.symm)]
      omega
/-- From x on while it is there: the cycle, and what is left. -/
def tk (t : Nat → Nat) : Nat → (Nat → Bool) → Nat → List Nat × (Nat → Bool)
  | 0, S, _ => ([], S)
  | k + 1, S, x => if S x then (x :: (tk t k (off S x) (t x)).1, (tk t k (off S x) (t x)).2) else ([], S)
theorem tk_no {t : Nat → Nat} {S : Nat → Bool} {x : Nat} (k : Nat) (h : S x = false) : tk t k S x = ([], S) := by
  cases k <;> simp [tk, h]
theorem tk_yes {t : Nat → Nat} {S : Nat → Bool} {m x k : Nat} (hx : x < m) (h : S x = true) (hk : cnS m S ≤ k) : ∃ k', k = k' + 1 ∧ cnS m (off S x) ≤ k' ∧ tk t k S x = (x :: (tk t k' (off S x) (t x)).1, (tk t k' (off S x) (t x)).2) := by
  have h1 := cnS_off hx h
  cases k with
  | zero => omega
  | succ k' => exact ⟨k', rfl, by omega, by simp [tk, h]⟩
theorem tk_cnt {t : Nat → Nat} {m : Nat} (ht : ∀ x, x < m → t x < m) : ∀ (k : Nat) (S : Nat → Bool) (x : Nat), x < m → cnS m (tk t k S x).2 + (tk t k S x).1.length = cnS m S
  | 0, S, x, _ => rfl
  | k + 1, S, x, hx => by
    cases h : S x with
    | false => simp [tk, h]
    | true =>
      have := tk_cnt ht k (off S x) (t x) (ht x hx)
      have h1 := cnS_off hx h
      simp only [tk, h, if_true, List.length_cons]
      omega
theorem tk_lt {t : Nat → Nat} {m : Nat} (ht : ∀ x, x < m → t x < m) : ∀ (k : Nat) (S : Nat → Bool) (x : Nat), x < m → ∀ y ∈ (tk t k S x).1, y < m
  | 0, S, x, _, y, hy => by simp [tk] at hy
  | k + 1, S, x, hx, y, hy => by
    cases h : S x with
    | false => simp [tk, h] at hy
    | true =>
      simp only [tk, h, if_true, List.mem_cons] at hy
      rcases hy with rfl | hy
      · exact hx
      · exact tk_lt ht k _ _ (ht x hx) y hy
/-- All cycles, from the least start on. -/
def cyc (t : Nat → Nat) (m : Nat) : Nat → (Nat → Bool) → List (List Nat)
  | 0, _ => []
  | k + 1, S => match (List.range m).find? S with
    | none => []
    | some x => (tk t m S x).1 :: cyc t m k (tk t m S x).2
theorem cyc_none {t : Nat → Nat} {m : Nat} {S : Nat → Bool} (k : Nat) (h : ∀ x, x < m → S x = false) : cyc t m k S = [] := by
  cases k with
  | zero => rfl
  | succ k =>
    have : (List.range m).find? S = none := List.find?_eq_none.2 fun x hx => by simp [h x (List.mem_range.1 hx)]
    simp [cyc, this]
theorem find_least {m x : Nat} {S : Nat → Bool} (hx : x < m) (h : S x = true) (hl : ∀ y, y < x → S y = false) : (List.range m).find? S = some x := by
  cases hf : (List.range m).find? S with
  | none => have := List.find?_eq_none.1 hf x (List.mem_range.2 hx); simp [h] at this
  | some z =>
    have h1 := List.mem_range.1 (List.mem_of_find?_eq_some hf)
    have h2 : S z = true := by simpa using List.find?_some hf
    have h3 : ¬ z < x := fun c => by rw [hl z c] at h2; cases h2
    have h4 : ¬ x < z := fun c => by
      obtain ⟨_, as, bs, e, hn⟩ := List.find?_eq_some_iff_append.1 hf
      have : x ∈ as := by
        have hm : x ∈ as ++ z :: bs := by rw [← e]; exact List.mem_range.2 hx
        rcases List.mem_append.1 hm with g | g
        · exact g
        · exfalso
          have hp : List.Pairwise (· < ·) (as ++ z :: bs) := by rw [← e]; exact List.pairwise_lt_range
          have hp2 := (List.pairwise_append.1 hp).2.1
          rcases List.mem_cons.1 g with g | g
          · omega
          · have := (List.pairwise_cons.1 hp2).1 x g; omega
      have := hn x this
      simp [h] at this
    rw [show z = x by omega]
theorem cyc_some {t : Nat → Nat} {m x k : Nat} {S : Nat → Bool} (ht : ∀ x, x < m → t x < m) (hx : x < m) (h : S x = true) (hl : ∀ y, y < x → S y = false) (hk : cnS m S ≤ k) :
    ∃ k', k = k' + 1 ∧ cnS m (tk t m S x).2 ≤ k' ∧ cyc t m k S = (tk t m S x).1 :: cyc t m k' (tk t m S x).2 := by
  have h1 := cnS_pos hx h
  have h2 := tk_cnt ht m S x hx
  obtain ⟨k0, e0, _, e1⟩ := tk_yes (t := t) hx h (cnS_le m S)
  have h3 : 0 < (tk t m S x).1.length := by rw [e1]; simp
  cases k with
  | zero => omega
  | succ k' => exact ⟨k', rfl, by omega, by simp [cyc, find_least hx h hl]⟩
/-- How long all lists are together. -/
def tot (L : List (List Nat)) : Nat := (L.map List.length).sum
theorem cyc_tot {t : Nat → Nat} {m : Nat} (ht : ∀ x, x < m → t x < m) : ∀ (k : Nat) (S : Nat → Bool), tot (cyc t m k S) ≤ cnS m S
  | 0, S => by simp [cyc, tot]
  | k + 1, S => by
    cases hf : (List.range m).find? S with
    | none => simp [cyc, hf, tot]
    | some x =>
      have hx := List.mem_range.1 (List.mem_of_find?_eq_some hf)
      have h1 := cyc_tot ht k (tk t m S x).2
      have h2 := tk_cnt ht m S x hx
      simp only [cyc, hf, tot, List.map_cons, List.sum_cons]
      unfold tot at h1
      omega
theorem cyc_pos {t : Nat → Nat} {m : Nat} : ∀ (k : Nat) (S : Nat → Bool), ∀ l ∈ cyc t m k S, 0 < l.length
  | 0, S, l, hl => by simp [cyc] at hl
  | k + 1, S, l, hl => by
    cases hf : (List.range m).find? S with
    | none => simp [cyc, hf] at hl
    | some x =>
      simp only [cyc, hf, List.mem_cons] at hl
      rcases hl with rfl | hl
      · have hx := List.mem_range.1 (List.mem_of_find?_eq_some hf)
        obtain ⟨k0, e0, _, e1⟩ := tk_yes (t := t) hx (by simpa using List.find?_some hf) (cnS_le m S)
        rw [e1]
        simp
      · exact cyc_pos k _ l hl
theorem tk_mono {t : Nat → Nat} : ∀ (k : Nat) (S : Nat → Bool) (x y : Nat), S y = false → (tk t k S x).2 y = false
  | 0, S, x, y, h => h
  | k + 1, S, x, y, h => by
    cases hS : S x with
    | false => simpa [tk, hS] using h
    | true =>
      simp only [tk, hS, if_true]
      exact tk_mono k _ _ y (by simp [off, h])
theorem cyc_len {t : Nat → Nat} (m : Nat) : ∀ (k : Nat) (S : Nat → Bool), (cyc t m k S).length ≤ k
  | 0, S => by simp [cyc]
  | k + 1, S => by
    cases hf : (List.range m).find? S with
    | none => simp [cyc, hf]
    | some x =>
      have := cyc_len (t := t) m k (tk t m S x).2
      simp only [cyc, hf, List.length_cons]
      omega
end Go.Proofs.YtapglncgicfjnabGreat
