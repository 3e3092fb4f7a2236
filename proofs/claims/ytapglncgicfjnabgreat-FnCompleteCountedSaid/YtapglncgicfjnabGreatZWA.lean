/- Several texts in one (tools/upbundle.py): OA SA OB SB SC OM RA RB SD SE SF SG SH LS VA. -/
import Derived.Test.YtapglncgicfjnabGreatKA
import Derived.Test.YtapglncgicfjnabGreatLI
import Derived.Test.YtapglncgicfjnabGreatKI
import Derived.Test.YtapglncgicfjnabGreatKL
import Derived.Deep.RegionHeld3
import Derived.Laws.EntriesVeiled
import Derived.Test.YtapglncgicfjnabGreatNB
import Derived.Test.YtapglncgicfjnabGreatKP
import Derived.Test.YtapglncgicfjnabGreatLV
import Derived.Lib.AppendZerosOnto
import Derived.Lib.AppendZeros
import Derived.Test.YtapglncgicfjnabGreatLJ
import Derived.Test.YtapglncgicfjnabGreatNE
import Derived.Test.YtapglncgicfjnabGreatRM
import Derived.Test.YtapglncgicfjnabGreatLD
/-! OA -/
namespace Go.Proofs.YtapglncgicfjnabGreat
/-- How often each element is among the first entries. -/
def oc (t : Nat → Int) : Nat → (Nat → Int)
  | 0 => fun _ => 0
  | n + 1 => upd (oc t n) (t n).toNat (oc t n (t n).toNat + 1)
theorem oc_succ (t : Nat → Int) (n k : Nat) (h : t n = (k : Int)) : oc t (n + 1) = upd (oc t n) k (oc t n k + 1) := by
  show upd (oc t n) (t n).toNat (oc t n (t n).toNat + 1) = _
  rw [h, Int.toNat_natCast]
theorem oc_bd (t : Nat → Int) : ∀ n y, 0 ≤ oc t n y ∧ oc t n y ≤ n := by
  intro n
  induction n with
  | zero => intro y; exact ⟨Int.le_refl 0, Int.le_refl 0⟩
  | succ n ih =>
    intro y
    have h1 := ih y
    have h2 := ih (t n).toNat
    show 0 ≤ upd (oc t n) (t n).toNat (oc t n (t n).toNat + 1) y ∧ upd (oc t n) (t n).toNat (oc t n (t n).toNat + 1) y ≤ _
    unfold upd
    split <;> omega
theorem oc_out {t : Nat → Int} {m : Nat} : ∀ n, (∀ i, i < n → El (m : Int) (t i)) → ∀ y, m ≤ y → oc t n y = 0 := by
  intro n
  induction n with
  | zero => intro _ y _; rfl
  | succ n ih =>
    intro ht y hy
    have h1 := ih (fun i hi => ht i (by omega)) y hy
    have h2 := ht n (by omega)
    have h3 := h2.1
    have h4 := h2.2
    show upd (oc t n) (t n).toNat (oc t n (t n).toNat + 1) y = 0
    unfold upd
    rw [if_neg (by omega)]
    exact h1
/-- An element that has places. -/
def mt (t : Nat → Int) (n y : Nat) : Bool := decide (0 < oc t n y)
/-- Pairs alike. -/
def pa (c : Nat → Int) : Nat → Int
  | 0 => 0
  | k + 1 => pa c k + (c k * (c k - 1)).tdiv 2
theorem half_bd (x : Int) (h0 : 0 ≤ x) (h1 : x ≤ 16) : 0 ≤ (x * (x - 1)).tdiv 2 ∧ (x * (x - 1)).tdiv 2 ≤ 120 ∧ 0 ≤ x * (x - 1) ∧ x * (x - 1) ≤ 240 := by
  obtain ⟨n, rfl⟩ := Int.eq_ofNat_of_zero_le h0
  have hn : n ≤ 16 := by omega
  have : ∀ n : Fin 17, 0 ≤ (((n.val : Nat) : Int) * (((n.val : Nat) : Int) - 1)).tdiv 2 ∧ (((n.val : Nat) : Int) * (((n.val : Nat) : Int) - 1)).tdiv 2 ≤ 120 ∧ 0 ≤ ((n.val : Nat) : Int) * (((n.val : Nat) : Int) - 1) ∧ ((n.val : Nat) : Int) * (((n.val : Nat) : Int) - 1) ≤ 240 := by decide
  exact this ⟨n, by omega⟩
theorem pa_bd {c : Nat → Int} (h : ∀ y, 0 ≤ c y ∧ c y ≤ 16) : ∀ k, 0 ≤ pa c k ∧ pa c k ≤ 120 * k := by
  intro k
  induction k with
  | zero => exact ⟨Int.le_refl 0, Int.le_refl 0⟩
  | succ k ih =>
    have h1 := half_bd (c k) (h k).1 (h k).2
    show 0 ≤ pa c k + _ ∧ pa c k + _ ≤ _
    omega
theorem pa_out {c : Nat → Int} {m : Nat} (h : ∀ y, m ≤ y → c y = 0) : ∀ d, pa c (m + d) = pa c m := by
  intro d
  induction d with
  | zero => rfl
  | succ d ih =>
    show pa c (m + d) + (c (m + d) * (c (m + d) - 1)).tdiv 2 = _
    rw [ih, h (m + d) (by omega)]
    simp
/-- Two places for each value, but for one at most: what is left to look at, and how many had one place. -/
def tw (c : Nat → Int) : Nat → Nat → Nat → Bool
  | _, 0, a => decide (a ≤ 1)
  | i, n + 1, a => if 2 < c i then false else tw c (i + 1) n (if c i = 1 then a + 1 else a)
theorem tw_zero {c : Nat → Int} : ∀ n i a, (∀ y, i ≤ y → c y = 0) → tw c i n a = decide (a ≤ 1) := by
  intro n
  induction n with
  | zero => intro i a _; rfl
  | succ n ih =>
    intro i a h
    show (if 2 < c i then false else tw c (i + 1) n (if c i = 1 then a + 1 else a)) = _
    rw [h i (Nat.le_refl _), if_neg (by omega), if_neg (by omega)]
    exact ih (i + 1) a fun y hy => h y (by omega)
theorem tw_out {c : Nat → Int} {m d : Nat} (h : ∀ y, m ≤ y → c y = 0) : ∀ n i a, i + n = m → tw c i (n + d) a = tw c i n a := by
  intro n
  induction n with
  | zero =>
    intro i a hi
    rw [Nat.zero_add, tw_zero d i a fun y hy => h y (by omega)]
    rfl
  | succ n ih =>
    intro i a hi
    rw [Nat.succ_add]
    show (if 2 < c i then false else tw c (i + 1) (n + d) (if c i = 1 then a + 1 else a)) = (if 2 < c i then false else tw c (i + 1) n (if c i = 1 then a + 1 else a))
    rw [ih (i + 1) _ (by omega)]
/-- The first k with a sum other than 0. -/
def fm (s : Nat → Int) : Nat → Nat → Int × Bool
  | _, 0 => (0, false)
  | k, n + 1 => if s k = 0 then fm s (k + 1) n else ((k : Int), true)
theorem fm_no {s : Nat → Int} {k n : Nat} (hn : 0 < n) (h : s k = 0) : fm s k n = fm s (k + 1) (n - 1) := by
  obtain ⟨j, rfl⟩ : ∃ j, n = j + 1 := ⟨n - 1, by omega⟩
  show (if s k = 0 then fm s (k + 1) j else ((k : Int), true)) = _
  rw [if_pos h]
  rfl
theorem fm_yes {s : Nat → Int} {k n : Nat} (hn : 0 < n) (h : s k ≠ 0) : fm s k n = ((k : Int), true) := by
  obtain ⟨j, rfl⟩ : ∃ j, n = j + 1 := ⟨n - 1, by omega⟩
  show (if s k = 0 then fm s (k + 1) j else ((k : Int), true)) = _
  rw [if_neg h]
theorem tw_big {c : Nat → Int} {i n a : Nat} (hn : 0 < n) (h : 2 < c i) : tw c i n a = false := by
  obtain ⟨j, rfl⟩ : ∃ j, n = j + 1 := ⟨n - 1, by omega⟩
  show (if 2 < c i then false else tw c (i + 1) j (if c i = 1 then a + 1 else a)) = _
  rw [if_pos h]
theorem tw_one {c : Nat → Int} {i n a : Nat} (hn : 0 < n) (h : c i = 1) : tw c i n a = tw c (i + 1) (n - 1) (a + 1) := by
  obtain ⟨j, rfl⟩ : ∃ j, n = j + 1 := ⟨n - 1, by omega⟩
  show (if 2 < c i then false else tw c (i + 1) j (if c i = 1 then a + 1 else a)) = _
  rw [if_neg (by omega), if_pos h]
  rfl
theorem tw_oth {c : Nat → Int} {i n a : Nat} (hn : 0 < n) (h : ¬ 2 < c i) (h1 : ¬ c i = 1) : tw c i n a = tw c (i + 1) (n - 1) a := by
  obtain ⟨j, rfl⟩ : ∃ j, n = j + 1 := ⟨n - 1, by omega⟩
  show (if 2 < c i then false else tw c (i + 1) j (if c i = 1 then a + 1 else a)) = _
  rw [if_neg h, if_neg h1]
  rfl
end Go.Proofs.YtapglncgicfjnabGreat
/-! SA -/
namespace Go.Proofs.YtapglncgicfjnabGreat
theorem bx_ext {a b : Bool} (h : a = true ↔ b = true) : a = b := by
  cases a <;> cases b <;> simp_all
/-- The table of the difference by a. -/
def dft (m : Nat) (t : Nat → Int) (a : Nat) : Nat → Int := fun x => subF m (t (addF m x a).toNat) (t x)
theorem addN_lt {m x a : Nat} (h : isSz (m : Int) = true) (hx : x < m) (ha : a < m) : (addF m x a).toNat < m := by
  have := El.add h (El.nat hx) (El.nat ha)
  have h1 := this.1
  have h2 := this.2
  omega
theorem El.lss {q a b : Int} (h : isSz q = true) (ha : El q a) (hb : El q b) : El q (subF q a b) := subF_bd q a b h ha.1 ha.2 hb.1 hb.2
theorem dft_el {m : Nat} {t : Nat → Int} (h : isSz (m : Int) = true) (ht : ∀ i, i < m → El (m : Int) (t i)) (a : Nat) (ha : a < m) (x : Nat) (hx : x < m) : El (m : Int) (dft m t a x) :=
  El.lss h (ht _ (addN_lt h hx ha)) (ht x hx)
/-- All counts of all differences, one after the other. -/
def cfl (m : Nat) (t : Nat → Int) : Nat → Int := fun i => oc (dft m t (i / m + 1)) m (i % m)
theorem cfl_at {m : Nat} (t : Nat → Int) (a b : Nat) (hb : b < m) : cfl m t (a * m + b) = oc (dft m t (a + 1)) m b := by
  unfold cfl
  have hm : 0 < m := by omega
  rw [show a * m + b = b + m * a by rw [Nat.mul_comm a m]; omega, Nat.add_mul_div_left _ _ hm, Nat.add_mul_mod_self_left, Nat.div_eq_of_lt hb, Nat.mod_eq_of_lt hb, Nat.zero_add]
theorem cfl_bd (m : Nat) (t : Nat → Int) (i : Nat) : 0 ≤ cfl m t i ∧ cfl m t i ≤ m := oc_bd _ m _
/-- The spread of the counts. -/
def spr (m : Nat) (t : Nat → Int) : Nat → Int := oc (cfl m t) ((m - 1) * m)
theorem oc_pos {t : Nat → Int} {y : Nat} : ∀ n, (0 < oc t n y ↔ ∃ i, i < n ∧ (t i).toNat = y) := by
  intro n
  induction n with
  | zero =>
    constructor
    · intro h; exact absurd h (by show ¬ (0 : Int) < 0; omega)
    · rintro ⟨i, hi, _⟩; omega
  | succ n ih =>
    show 0 < upd (oc t n) (t n).toNat (oc t n (t n).toNat + 1) y ↔ _
    unfold upd
    split
    · rename_i e
      have hb := (oc_bd t n (t n).toNat).1
      constructor
      · intro _; exact ⟨n, by omega, e.symm⟩
      · intro _; omega
    · rename_i e
      rw [ih]
      constructor
      · rintro ⟨i, hi, h⟩; exact ⟨i, by omega, h⟩
      · rintro ⟨i, hi, h⟩
        by_cases e' : i = n
        · subst e'; exact absurd h.symm e
        · exact ⟨i, by omega, h⟩
theorem spr_pos {m : Nat} {t : Nat → Int} {k : Nat} : 0 < spr m t k ↔ ∃ a b, a + 1 < m ∧ b < m ∧ (oc (dft m t (a + 1)) m b).toNat = k := by
  unfold spr
  rw [oc_pos]
  constructor
  · rintro ⟨i, hi, e⟩
    have hm : 0 < m := by
      rcases Nat.eq_zero_or_pos m with z | z
      · subst z; simp at hi
      · exact z
    refine ⟨i / m, i % m, ?_, Nat.mod_lt _ hm, e⟩
    have := (Nat.div_lt_iff_lt_mul hm).2 hi
    omega
  · rintro ⟨a, b, ha, hb, e⟩
    refine ⟨a * m + b, ?_, by rw [cfl_at t a b hb]; exact e⟩
    have h1 : (a + 1) * m ≤ (m - 1) * m := Nat.mul_le_mul_right m (by omega)
    rw [Nat.succ_mul] at h1
    omega
/-- The greatest k up to n at which something is. -/
def gr (c : Nat → Int) : Nat → Nat
  | 0 => 0
  | k + 1 => if c (k + 1) = 0 then gr c k else k + 1
theorem gr_le (c : Nat → Int) : ∀ n, gr c n ≤ n := by
  intro n
  induction n with
  | zero => exact Nat.le_refl _
  | succ n ih => show (if c (n + 1) = 0 then gr c n else n + 1) ≤ n + 1; split <;> omega
theorem gr_no {c : Nat → Int} {n : Nat} (h : c (n + 1) = 0) : gr c (n + 1) = gr c n := if_pos h
theorem gr_yes {c : Nat → Int} {n : Nat} (h : c n ≠ 0) : gr c n = n := by
  cases n with
  | zero => rfl
  | succ n => exact if_neg h
theorem gr_at {c : Nat → Int} : ∀ n, (∃ k, k ≤ n ∧ c k ≠ 0) → c (gr c n) ≠ 0 := by
  intro n
  induction n with
  | zero => rintro ⟨k, hk, h⟩; obtain rfl : k = 0 := by omega
            exact h
  | succ n ih =>
    rintro ⟨k, hk, h⟩
    by_cases e : c (n + 1) = 0
    · rw [gr_no e]
      refine ih ⟨k, ?_, h⟩
      by_cases e' : k = n + 1
      · subst e'; exact absurd e h
      · omega
    · rw [gr_yes e]; exact e
theorem gr_up {c : Nat → Int} : ∀ n k, k ≤ n → gr c n < k → c k = 0 := by
  intro n
  induction n with
  | zero => intro k hk h; omega
  | succ n ih =>
    intro k hk h
    by_cases e : c (n + 1) = 0
    · rw [gr_no e] at h
      by_cases e' : k = n + 1
      · subst e'; exact e
      · exact ih k (by omega) h
    · rw [gr_yes e] at h; omega
/-- All places counted are all. -/
def tsm (c : Nat → Int) : Nat → Int
  | 0 => 0
  | n + 1 => tsm c n + c n
theorem tsm_upd (c : Nat → Int) (y : Nat) : ∀ n, tsm (upd c y (c y + 1)) n = tsm c n + (if y < n then 1 else 0) := by
  intro n
  induction n with
  | zero => rfl
  | succ n ih =>
    show tsm (upd c y (c y + 1)) n + upd c y (c y + 1) n = tsm c n + c n + _
    rw [ih]
    unfold upd
    by_cases e : n = y
    · subst e
      rw [if_neg (Nat.lt_irrefl n), if_pos rfl, if_pos (by omega)]
      omega
    · rw [if_neg e]
      by_cases e2 : y < n
      · rw [if_pos e2, if_pos (by omega)]; omega
      · rw [if_neg e2, if_neg (by omega)]; omega
theorem tsm_oc {m : Nat} {t : Nat → Int} : ∀ n, (∀ i, i < n → El (m : Int) (t i)) → tsm (oc t n) m = n := by
  intro n
  induction n with
  | zero =>
    intro _
    have : ∀ k, tsm (oc t 0) k = 0 := by
      intro k
      induction k with
      | zero => rfl
      | succ k ih => show tsm (oc t 0) k + (0 : Int) = 0; omega
    exact this m
  | succ n ih =>
    intro ht
    have h1 := ih fun i hi => ht i (by omega)
    have h2 := ht n (by omega)
    have h3 := h2.1
    have h4 := h2.2
    show tsm (upd (oc t n) (t n).toNat (oc t n (t n).toNat + 1)) m = _
    rw [tsm_upd, h1, if_pos (by omega)]
    omega
theorem tsm_le {c : Nat → Int} {n k : Nat} (hk : k < n) (h : ∀ i, i < n → c i ≤ 1) : tsm c n ≤ n - 1 + c k := by
  have hb : ∀ j, j ≤ n → tsm c j ≤ j := by
    intro j
    induction j with
    | zero => intro _; exact Int.le_refl 0
    | succ j ih =>
      intro hj
      have := ih (by omega)
      have := h j (by omega)
      show tsm c j + c j ≤ _
      omega
  have : ∀ j, k < j → j ≤ n → tsm c j ≤ j - 1 + c k := by
    intro j
    induction j with
    | zero => intro hj; omega
    | succ j ih =>
      intro hj hjn
      have h1 := h j (by omega)
      by_cases e : k = j
      · subst e
        have := hb k (by omega)
        show tsm c k + c k ≤ _
        omega
      · have := ih (by omega) (by omega)
        show tsm c j + c j ≤ _
        omega
  exact this n hk (Nat.le_refl n)
theorem tsm_zero {c : Nat → Int} : ∀ n, (∀ i, i < n → c i = 0) → tsm c n = 0 := by
  intro n
  induction n with
  | zero => intro _; rfl
  | succ n ih =>
    intro h
    show tsm c n + c n = 0
    rw [ih fun i hi => h i (by omega), h n (by omega)]
    rfl
/-- Only those that are allowed. -/
def ho (c : Nat → Int) (L : List Int) : Nat → Bool
  | 0 => true
  | n + 1 => ho c L n && (decide (c n ≤ 0) || L.contains (n : Int))
theorem ho_iff {c : Nat → Int} {L : List Int} : ∀ n, (ho c L n = true ↔ ∀ k, k < n → 0 < c k → L.contains (k : Int) = true) := by
  intro n
  induction n with
  | zero => exact ⟨fun _ k hk => by omega, fun _ => rfl⟩
  | succ n ih =>
    show (ho c L n && (decide (c n ≤ 0) || L.contains (n : Int))) = true ↔ _
    rw [Bool.and_eq_true, ih, Bool.or_eq_true, decide_eq_true_iff]
    constructor
    · rintro ⟨h1, h2⟩ k hk hp
      by_cases e : k = n
      · subst e
        rcases h2 with h2 | h2
        · omega
        · exact h2
      · exact h1 k (by omega) hp
    · intro hh
      refine ⟨fun k hk => hh k (by omega), ?_⟩
      by_cases e : c n ≤ 0
      · exact .inl e
      · exact .inr (hh n (by omega) (by omega))
theorem isSz_two {m : Nat} (h : isSz (m : Int) = true) : 2 ≤ m ∧ m ≤ 16 := by
  have := isSz_le (m : Int) h
  omega
theorem spr_one {m : Nat} {t : Nat → Int} (h : isSz (m : Int) = true) (ht : ∀ i, i < m → El (m : Int) (t i)) : ∃ k, 1 ≤ k ∧ k ≤ m ∧ spr m t k ≠ 0 := by
  have hq := isSz_two h
  have h1 := tsm_oc m (fun x hx => dft_el h ht 1 (by omega) x hx)
  have hc : ∃ b, b < m ∧ 0 < oc (dft m t 1) m b := by
    refine Classical.byContradiction fun hn => ?_
    have : tsm (oc (dft m t 1) m) m = 0 := tsm_zero m fun i hi => by
      have hb := (oc_bd (dft m t 1) m i).1
      have : ¬ 0 < oc (dft m t 1) m i := fun hp => hn ⟨i, hi, hp⟩
      omega
    omega
  obtain ⟨b, hb, hp⟩ := hc
  have hbd := oc_bd (dft m t 1) m b
  refine ⟨(oc (dft m t 1) m b).toNat, by omega, by omega, ?_⟩
  have h2 := (spr_pos (m := m) (t := t)).2 ⟨0, b, by omega, hb, rfl⟩
  have h3 : 0 < spr m t (oc (dft m t 1) m b).toNat := h2
  omega
theorem spr_some {m : Nat} {t : Nat → Int} (h : isSz (m : Int) = true) (ht : ∀ i, i < m → El (m : Int) (t i)) : spr m t (gr (spr m t) m) ≠ 0 := by
  obtain ⟨k, _, hk, h0⟩ := spr_one h ht
  exact gr_at m ⟨k, hk, h0⟩
theorem spr_nn (m : Nat) (t : Nat → Int) (k : Nat) : 0 ≤ spr m t k := (oc_bd _ _ _).1
theorem has1 (k : Nat) : ([1] : List Int).contains (k : Int) = true ↔ k = 1 := by simp; omega
theorem has02 (k : Nat) : ([0, 2] : List Int).contains (k : Int) = true ↔ k = 0 ∨ k = 2 := by simp; omega
/-- Planar: only the count 1, or the greatest count is 1. -/
theorem planar_ways {m : Nat} {t : Nat → Int} (h : isSz (m : Int) = true) (ht : ∀ i, i < m → El (m : Int) (t i)) : ho (spr m t) [1] (m + 1) = decide (gr (spr m t) m = 1) := by
  apply bx_ext
  rw [ho_iff, decide_eq_true_iff]
  have hg := spr_some h ht
  have hgl := gr_le (spr m t) m
  have hnn := spr_nn m t
  constructor
  · intro hh
    have := hnn (gr (spr m t) m)
    exact (has1 _).1 (hh _ (by omega) (by omega))
  · intro e k hk hp
    rw [has1]
    have hup := gr_up (c := spr m t) m
    rw [e] at hup
    have hk1 : k ≤ 1 := by
      refine Classical.byContradiction fun hn => ?_
      have := hup k (by omega) (by omega)
      omega
    obtain ⟨a, b, ha, hb, eq⟩ := spr_pos.1 hp
    have hall : ∀ i, i < m → oc (dft m t (a + 1)) m i ≤ 1 := fun i hi => by
      have hbd := oc_bd (dft m t (a + 1)) m i
      refine Classical.byContradiction fun hn => ?_
      have h1 := (spr_pos (m := m) (t := t)).2 ⟨a, i, ha, hi, rfl⟩
      have h2 := hup (oc (dft m t (a + 1)) m i).toNat (by omega) (by omega)
      omega
    have h1 := tsm_le hb hall
    rw [tsm_oc m (fun x hx => dft_el h ht (a + 1) (by omega) x hx)] at h1
    have hbd := oc_bd (dft m t (a + 1)) m b
    omega
/-! ### Even fields -/
def evs : List Nat := [2, 4, 8, 16]
def isPermL (l r : List Nat) : Bool := l.isPerm r
theorem ev_facts : (evs.all fun m => (List.range m).all fun a => (a == 0) || (((List.range m).map fun x : Nat => (addF m x a).toNat).isPerm (List.range m) && (List.range m).all fun x : Nat => decide (addF m (addF m x a) a = x) && decide (addF m x a ≠ x))) = true := by decide +kernel
theorem ev_sub : (evs.all fun m => (List.range m).all fun a => (List.range m).all fun b => decide (subF m a b = subF m b a)) = true := by decide +kernel
theorem ev_of {m : Nat} (h : isSz (m : Int) = true) (he : m % 2 = 0) : m ∈ evs := by
  have hq := isSz_two h
  have : ∀ n : Fin 17, isSz ((n.val : Nat) : Int) = true → n.val % 2 = 0 → n.val ∈ evs := by decide +kernel
  exact this ⟨m, by omega⟩ h he
theorem ev_facts' {m a : Nat} (h : isSz (m : Int) = true) (he : m % 2 = 0) (ha : a < m) (h0 : a ≠ 0) :
    ((List.range m).map fun x : Nat => (addF m x a).toNat).Perm (List.range m) ∧ ∀ x, x < m → addF m (addF m x a) a = x ∧ addF m x a ≠ x := by
  have h1 := List.all_eq_true.1 (List.all_eq_true.1 ev_facts m (ev_of h he)) a (List.mem_range.2 ha)
  rw [Bool.or_eq_true, Bool.and_eq_true] at h1
  rcases h1 with h1 | ⟨h1, h2⟩
  · exact absurd (eq_of_beq h1) h0
  · refine ⟨List.isPerm_iff.1 h1, fun x hx => ?_⟩
    have h3 := List.all_eq_true.1 h2 x (List.mem_range.2 hx)
    rw [Bool.and_eq_true, decide_eq_true_iff, decide_eq_true_iff] at h3
    exact h3
theorem ev_sub' {m : Nat} {x y : Int} (h : isSz (m : Int) = true) (he : m % 2 = 0) (hx : El (m : Int) x) (hy : El (m : Int) y) : subF m x y = subF m y x := by
  obtain ⟨a, rfl⟩ := Int.eq_ofNat_of_zero_le hx.1
  obtain ⟨b, rfl⟩ := Int.eq_ofNat_of_zero_le hy.1
  have h1 := hx.2
  have h2 := hy.2
  exact of_decide_eq_true (List.all_eq_true.1 (List.all_eq_true.1 (List.all_eq_true.1 ev_sub m (ev_of h he)) a (List.mem_range.2 (by omega))) b (List.mem_range.2 (by omega)))
theorem oc_count {t : Nat → Int} {y : Nat} : ∀ n, (oc t n y).toNat = (List.range n).countP (fun x => decide ((t x).toNat = y)) ∧ 0 ≤ oc t n y := by
  intro n
  induction n with
  | zero => exact ⟨rfl, Int.le_refl 0⟩
  | succ n ih =>
    rw [List.range_succ, List.countP_append]
    obtain ⟨h1, h2⟩ := ih
    have hb := (oc_bd t n (t n).toNat).1
    constructor
    · show (upd (oc t n) (t n).toNat (oc t n (t n).toNat + 1) y).toNat = _
      unfold upd
      by_cases e : y = (t n).toNat
      · rw [if_pos e, ← e, ← h1]
        simp [e]
        omega
      · rw [if_neg e, h1]
        have : ¬ (t n).toNat = y := fun e' => e e'.symm
        simp [this]
    · show 0 ≤ upd (oc t n) (t n).toNat (oc t n (t n).toNat + 1) y
      unfold upd
      split <;> omega
theorem countP_two {p s : Nat → Bool} (l : List Nat) : l.countP p = l.countP (fun x => p x && s x) + l.countP (fun x => p x && !s x) := by
  induction l with
  | nil => rfl
  | cons x l ih =>
    rw [List.countP_cons, List.countP_cons, List.countP_cons, ih]
    cases hp : p x <;> cases hs : s x <;> simp <;> omega
/-- In even fields each value of a difference has an even number of places. -/
theorem ev_even {m : Nat} {t : Nat → Int} (h : isSz (m : Int) = true) (he : m % 2 = 0) (ht : ∀ i, i < m → El (m : Int) (t i)) (a : Nat) (ha : a + 1 < m) (b : Nat) : (oc (dft m t (a + 1)) m b).toNat % 2 = 0 := by
  obtain ⟨hp, hs⟩ := ev_facts' h he ha (by omega)
  rw [(oc_count m).1, countP_two (s := fun x => decide (x < (addF m x ((a + 1 : Nat) : Int)).toNat))]
  have h1 : (List.range m).countP (fun x => decide ((dft m t (a + 1) x).toNat = b) && decide (x < (addF m x ((a + 1 : Nat) : Int)).toNat)) = (List.range m).countP (fun x => decide ((dft m t (a + 1) x).toNat = b) && !decide (x < (addF m x ((a + 1 : Nat) : Int)).toNat)) := by
    rw [← hp.countP_eq, List.countP_map]
    refine List.countP_congr fun x hx => ?_
    have hxm := List.mem_range.1 hx
    obtain ⟨e1, e2⟩ := hs x hxm
    have hb := El.add h (El.nat hxm) (El.nat ha)
    have hb0 := hb.1
    have hsx : ((addF m x ((a + 1 : Nat) : Int)).toNat : Int) = addF m x ((a + 1 : Nat) : Int) := by omega
    have hss : (addF m ((addF m x ((a + 1 : Nat) : Int)).toNat : Int) ((a + 1 : Nat) : Int)).toNat = x := by
      rw [hsx, e1]; omega
    have hd : dft m t (a + 1) (addF m x ((a + 1 : Nat) : Int)).toNat = dft m t (a + 1) x := by
      show subF m (t (addF m ((addF m x ((a + 1 : Nat) : Int)).toNat : Int) ((a + 1 : Nat) : Int)).toNat) (t (addF m x ((a + 1 : Nat) : Int)).toNat) = subF m (t (addF m x ((a + 1 : Nat) : Int)).toNat) (t x)
      rw [hss]
      exact ev_sub' h he (ht x hxm) (ht _ (addN_lt h hxm ha))
    simp only [Function.comp, hd, hss, Bool.and_eq_true, decide_eq_true_iff, Bool.not_eq_true', decide_eq_false_iff_not]
    constructor
    · rintro ⟨h1, h2⟩; exact ⟨h1, by omega⟩
    · rintro ⟨h1, h2⟩; exact ⟨h1, by omega⟩
  omega
/-- Almost perfect: only the counts 0 and 2, or the greatest count is 2. -/
theorem perfect_ways {m : Nat} {t : Nat → Int} (h : isSz (m : Int) = true) (he : m % 2 = 0) (ht : ∀ i, i < m → El (m : Int) (t i)) : ho (spr m t) [0, 2] (m + 1) = decide (gr (spr m t) m = 2) := by
  apply bx_ext
  rw [ho_iff, decide_eq_true_iff]
  have hgl := gr_le (spr m t) m
  have hnn := spr_nn m t
  constructor
  · intro hh
    obtain ⟨k, hk1, hkm, hk⟩ := spr_one h ht
    have := hnn k
    have hk2 : k = 2 := by
      have := (has02 _).1 (hh k (by omega) (by omega))
      omega
    subst hk2
    have hg := spr_some h ht
    have hg1 := hnn (gr (spr m t) m)
    have hgp : 0 < spr m t (gr (spr m t) m) := by omega
    have hg2 := (has02 _).1 (hh (gr (spr m t) m) (by omega) hgp)
    rcases hg2 with hg2 | hg2
    · have := gr_up (c := spr m t) m 2 hkm (by omega)
      exact absurd this hk
    · exact hg2
  · intro e k hk hp
    rw [has02]
    have hup := gr_up (c := spr m t) m
    rw [e] at hup
    have hk2 : k ≤ 2 := by
      refine Classical.byContradiction fun hn => ?_
      have := hup k (by omega) (by omega)
      omega
    obtain ⟨a, b, ha, hb, eq⟩ := spr_pos.1 hp
    have := ev_even h he ht a ha b
    omega
/-! ### The first repeated value -/
/-- What is asked of x and y behind it. -/
def hit (m : Nat) (t : Nat → Int) (a x y : Nat) : Bool := decide (dft m t a x = dft m t a y) && !(decide (m % 2 = 0) && decide (addF m x a = (y : Int)))
structure Frp (m : Nat) (t : Nat → Int) (r : List Int) (o : Bool) : Prop where
  yes : ∀ a x y, 1 ≤ a → a < m → x < y → y < m → (∀ a', 1 ≤ a' → a' < a → ∀ x' y', x' < y' → y' < m → hit m t a' x' y' = false) → (∀ x', x' < x → ∀ y', x' < y' → y' < m → hit m t a x' y' = false) → (∀ y', x < y' → y' < y → hit m t a x y' = false) → hit m t a x y = true → r = [(a : Int), (x : Int), (y : Int)] ∧ o = true
  no : (∀ a, 1 ≤ a → a < m → ∀ x y, x < y → y < m → hit m t a x y = false) → r = [] ∧ o = false
theorem frp_is (m : Nat) (t : Nat → Int) : ∃ r o, Frp m t r o ∧ r.length ≤ 3 := by
  by_cases h : ∃ a x y, 1 ≤ a ∧ a < m ∧ x < y ∧ y < m ∧ hit m t a x y = true
  · obtain ⟨a0, ha0⟩ := h
    obtain ⟨a, _, ⟨x0, hx0⟩, hl⟩ := least_of (P := fun a => ∃ x y, 1 ≤ a ∧ a < m ∧ x < y ∧ y < m ∧ hit m t a x y = true) a0 ha0
    obtain ⟨x, _, ⟨y0, hy0⟩, hx⟩ := least_of (P := fun x => ∃ y, 1 ≤ a ∧ a < m ∧ x < y ∧ y < m ∧ hit m t a x y = true) x0 hx0
    obtain ⟨y, _, ⟨h1, h2, h3, h4, h5⟩, hy⟩ := least_of (P := fun y => 1 ≤ a ∧ a < m ∧ x < y ∧ y < m ∧ hit m t a x y = true) y0 hy0
    refine ⟨[(a : Int), (x : Int), (y : Int)], true, ⟨?_, ?_⟩, Nat.le_refl _⟩
    · intro a' x' y' c1 c2 c3 c4 c5 c6 c7 c8
      have e : a' = a := by
        rcases Nat.lt_trichotomy a' a with z | z | z
        · exact absurd ⟨x', y', c1, c2, c3, c4, c8⟩ (hl a' z)
        · exact z
        · have := c5 a h1 z x y h3 h4
          rw [h5] at this; cases this
      subst e
      have e : x' = x := by
        rcases Nat.lt_trichotomy x' x with z | z | z
        · exact absurd ⟨y', c1, c2, c3, c4, c8⟩ (hx x' z)
        · exact z
        · have := c6 x z y h3 h4
          rw [h5] at this; cases this
      subst e
      have e : y' = y := by
        rcases Nat.lt_trichotomy y' y with z | z | z
        · exact absurd ⟨c1, c2, c3, c4, c8⟩ (hy y' z)
        · exact z
        · have := c7 y h3 z
          rw [h5] at this; cases this
      subst e
      exact ⟨rfl, rfl⟩
    · intro hn
      have := hn a h1 h2 x y h3 h4
      rw [h5] at this; cases this
  · refine ⟨[], false, ⟨?_, fun _ => ⟨rfl, rfl⟩⟩, by simp⟩
    intro a x y c1 c2 c3 c4 _ _ _ c8
    exact absurd ⟨a, x, y, c1, c2, c3, c4, c8⟩ h
end Go.Proofs.YtapglncgicfjnabGreat
/-! OB -/
namespace Go.Proofs.YtapglncgicfjnabGreat
open Go.RowKit
theorem part0_z (m : Nat) : fl (part0 (fun _ => 0) 0) m = fl (fun _ => 0) m := fl_congr fun i _ => by simp [part0]
set_option maxHeartbeats 2000000 in
/-- spec.vaCounts. -/
theorem vaCounts_any (m n : Nat) (v : Value) (t : Nat → Int) (w : World) (hm : 1 ≤ m ∧ m ≤ 16) (hv : Sl w v (fl t n)) (ht : ∀ i, i < n → El (m : Int) (t i)) (hn : n ≤ 1000) :
    Calls Tryz.prog 172 #[.int .i64 m, v] w fun e w' => ∃ g, e = .returned (.slice (some ⟨g, 0, none⟩) m m) ∧ w.heap.size ≤ g ∧ g < w'.heap.size ∧ Row w' w.heap.size (.slice (some ⟨g, 0, none⟩) m m) (fl (oc t n) m) ∧ Below w.heap.size w w' := by
  obtain ⟨i0, hi, iz0, iz1, iz2⟩ := info_parts Tryz.infoI
  obtain ⟨a, cap, rfl, hcc⟩ := hv.parts
  have HT := Lib.hid ht
  have HCL := Lib.hid hcc
  have HBD := Lib.hid (oc_bd t)
  have HSU := Lib.hid (oc_succ t)
  clear hv hcc ht
  go_enter Tryz.func172, Tryz.ntmps172
  go_wp2_with (at_make; refine wpList_make_full _ rfl _ _ 24 rfl w.heap.size 3 i0 (.int .i64 0) 1 Tryz.underlying24 hi iz0 iz1 .i64 .i64 _ _ m rfl rfl rfl rfl ?c3 ?c4 ?c5 ?_)
  case c3 => rw [iz2]; omega
  case c4 => unfold maxLen; omega
  case c5 => omega
  intro w1 hown hgrow
  have HR : Hid (Row w1 w.heap.size (.slice (some ⟨w.heap.size, 0, none⟩) m m) (fl (oc t 0) m)) := Lib.hid (by
    have := Row.madeF (fun _ => 0) hown
    rw [part0_z] at this
    exact this)
  have HB := Lib.hid ((Below.refl w.heap.size w).grown hgrow (Nat.le_refl _) (fun k hk => by cases hk))
  have hgl : w.heap.size < w1.heap.size := (HR.out.lt w.heap.size rfl).2
  clear hown hgrow
  go_wp2_with fail
  go_loopw [12] (fun vi wr => ∃ i : Nat, i ≤ n ∧ vi = .int .i64 i ∧ Row wr w.heap.size (.slice (some ⟨w.heap.size, 0, none⟩) m m) (fl (oc t i) m) ∧ w.heap.size < wr.heap.size ∧ Below w.heap.size w wr) (fun vi _ => n - (intOf vi).toNat)
  case atStart => exact ⟨0, Nat.zero_le _, rfl, HR.out, hgl, HB.out⟩
  case round =>
    obtain ⟨i, hin, rfl, hr, hgl', hbw⟩ := hrel
    by_cases hlt : i < n
    · obtain ⟨b, off, rfl, hb, hc⟩ := HCL.out (by omega)
      have hcell := (hbw.cell (p := ⟨b, off + i, none⟩) hb).trans (hc i hlt)
      have hte := HT.out i hlt
      obtain ⟨k, hk⟩ := Int.eq_ofNat_of_zero_le hte.1
      rw [hk] at hcell
      have hk2 : k < m := by have := hte.2; omega
      have e2 := Row.cell (l := fl (oc t i) m) (cap := m) (by rw [fl_len]; exact hr) k (by rw [fl_len]; exact hk2)
      rw [fl_get _ _ _ hk2] at e2
      have f2 := hr.frozen (by rw [fl_len]) k
      have HST := Lib.hid (hr.store (by rw [fl_len]) k (oc t i k + 1))
      have HUP := Lib.hid (HSU.out i k hk)
      have hbd := HBD.out i k
      have HBW := Lib.hid hbw
      clear hr hbw hc hte hk
      generalize hcc : oc t i k = c at *
      clear hcc
      go_wp2
      go_roundw
      case rel =>
        refine ⟨i + 1, by omega, by go_num, ?_, by simp; omega, HBW.out.setCell (Nat.le_refl _) _⟩
        rw [HUP.out, ← fl_set]
        exact HST.out
      case measure => (simp [intOf]; try omega)
    · obtain rfl : n = i := by omega
      have HRr := Lib.hid hr
      have HBW := Lib.hid hbw
      clear hr hbw
      go_wp2
      go_ret
      exact ⟨_, rfl, Nat.le_refl _, hgl', HRr.out, HBW.out⟩
set_option maxHeartbeats 2000000 in
/-- spec.vaSet. -/
theorem vaSet_any (m g cap : Nat) (c : Nat → Int) (w : World) (hm : m ≤ 16) (hg : g < w.heap.size) (hc : ∀ i, i < m → w.cell? ⟨g, i, none⟩ = some (.int .i64 (c i))) :
    Calls Tryz.prog 171 #[.slice (some ⟨g, 0, none⟩) m cap] w fun e w' => ∃ v, e = .returned v ∧ Row w' w.heap.size v (wh (fun y => decide (0 < c y)) m) ∧ Below w.heap.size w w' := by
  obtain ⟨i0, hi, iz0, iz1, iz2⟩ := info_parts Tryz.infoI
  have HC := Lib.hid hc
  have HI : Hid (∀ i, (fun y => decide (0 < c y)) i = decide (0 < c i)) := Lib.hid fun _ => rfl
  clear hc
  generalize (fun y => decide (0 < c y)) = P at *
  go_enter Tryz.func171, Tryz.ntmps171
  go_wp2_with fail
  go_loopw [3, 8] (fun vo vi wr => ∃ k : Nat, k ≤ m ∧ vi = .int .i64 k ∧ Row wr w.heap.size vo (wh P k) ∧ Below w.heap.size w wr) (fun _ vi _ => m - (intOf vi).toNat)
  case atStart => exact ⟨0, Nat.zero_le _, rfl, Row.nil _ _, Below.refl _ _⟩
  case round =>
    obtain ⟨k, hk, rfl, hr, hbw⟩ := hrel
    have hz := hbw.size
    have HL := Lib.hid (wh_len P k)
    by_cases hlt : k < m
    · have hc0 := (hbw.cell (p := ⟨g, k, none⟩) hg).trans (HC.out k hlt)
      have HR := Lib.hid hr; clear hr
      have HBW := Lib.hid hbw; clear hbw
      have HIk := Lib.hid (HI.out k)
      generalize c k = x at *
      by_cases hx : 0 < x
      · have HS := Lib.hid (wh_yes P k (by rw [HIk.out]; simpa using hx))
        go_wp2_with (at_builtin; refine wpList_append_own _ rfl _ _ 24 rfl w.heap.size 3 i0 (.int .i64 0) 1 8 Tryz.underlying24 hi iz0 iz1 iz2 rfl (by decide) _ _ _ rfl (World.ownsRow.alloc HR.out _) ⟨wr.heap.size, 0, none⟩ 1 1 [.int .i64 k] rfl rfl ?c1 ?c2 ?c3 ?c4 ?c5 ?_)
        case c1 => exact cell_one_new _ _ _
        case c2 => first | rfl | (intro u hu; simp at hu; subst hu; rfl)
        case c3 => have := HL.out; unfold maxLen; omega
        case c4 => have := HL.out; omega
        case c5 => first | omega | (simp; omega)
        intro v' w6 hown hgrow _
        have HR6 := Lib.hid (Row.appended hown)
        have hb : Below w.heap.size w (wr.alloc (.cells #[.int .i64 k] 3)) := HBW.out.alloc (by omega) _
        have HB6 := Lib.hid (hb.grown hgrow (by simp; omega) (fun g hg => (HR.out.lt g hg).1))
        clear hown hgrow hb
        go_wp2
        go_roundw
        case rel => exact ⟨k + 1, by omega, by go_num, by rw [HS.out]; exact HR6.out, HB6.out⟩
        case measure => simp [intOf]; omega
      · have HS := Lib.hid (wh_no P k (by rw [HIk.out]; simpa using hx))
        go_wp2
        go_roundw
        case rel => exact ⟨k + 1, by omega, by go_num, by rw [HS.out]; exact HR.out, HBW.out⟩
        case measure => simp [intOf]; omega
    · obtain rfl : m = k := by omega
      have HR := Lib.hid hr; clear hr
      have HBW := Lib.hid hbw; clear hbw
      go_wp2
      go_ret
      exact ⟨_, rfl, HR.out, HBW.out⟩
set_option maxHeartbeats 1000000 in
/-- spec.vaValues. -/
theorem vaValues_any (m n : Nat) (v : Value) (t : Nat → Int) (w : World) (hm : 1 ≤ m ∧ m ≤ 16) (hv : Sl w v (fl t n)) (ht : ∀ i, i < n → El (m : Int) (t i)) (hn : n ≤ 1000) :
    Calls Tryz.prog 87 #[.int .i64 m, v] w fun e w' => ∃ v', e = .returned v' ∧ Row w' w.heap.size v' (wh (mt t n) m) ∧ Below w.heap.size w w' := by
  have H1 := Lib.hid (vaCounts_any m n v t w hm hv ht hn)
  have HM : Hid (mt t n = fun y => decide (0 < oc t n y)) := Lib.hid rfl
  clear hv ht
  go_enter Tryz.func87, Tryz.ntmps87
  go_wp2_with fail
  refine H1.out.mono ?_
  rintro e w1 ⟨g, rfl, hg, hgl, hr, hb⟩
  have H2 := Lib.hid (vaSet_any m g m (oc t n) w1 hm.2 hgl fun i hi => by
    have := Row.cell (l := fl (oc t n) m) (by rw [fl_len]; exact hr) i (by rw [fl_len]; exact hi)
    rwa [fl_get _ _ _ hi] at this)
  have HB := Lib.hid hb
  have hz := hb.size
  clear hr hb
  go_wp2_with fail
  refine H2.out.mono ?_
  rintro e w2 ⟨v2, rfl, hr2, hb2⟩
  have HR2 := Lib.hid hr2
  have HB2 := Lib.hid hb2
  clear hr2 hb2
  go_wp2
  go_ret
  exact ⟨_, rfl, by rw [HM.out]; exact HR2.out.mono hz, HB.out.trans (HB2.out.mono hz)⟩
end Go.Proofs.YtapglncgicfjnabGreat
/-! SB -/
namespace Go.Proofs.YtapglncgicfjnabGreat
open Go.RowKit
/-- The counts of the first groups, and of the first ones of the next. -/
theorem spr_step (m : Nat) (t : Nat → Int) (a b : Nat) (hb : b < m) {k : Nat} (hk : oc (dft m t (a + 1)) m b = (k : Int)) : oc (cfl m t) (a * m + (b + 1)) = upd (oc (cfl m t) (a * m + b)) k (oc (cfl m t) (a * m + b) k + 1) := by
  rw [show a * m + (b + 1) = a * m + b + 1 by omega]
  exact oc_succ _ _ _ (by rw [cfl_at t a b hb]; exact hk)
theorem part0_zN (m : Nat) : fl (part0 (fun _ => 0) 0) m = fl (fun _ => 0) m := fl_congr fun i _ => by simp [part0]
/-- Sums over the first numbers. -/
def sg (G : Nat → Nat) : Nat → Nat
  | 0 => 0
  | n + 1 => sg G n + G n
theorem sg_congr {G H : Nat → Nat} : ∀ n, (∀ i, i < n → G i = H i) → sg G n = sg H n := by
  intro n
  induction n with
  | zero => intro _; rfl
  | succ n ih =>
    intro h
    show sg G n + G n = sg H n + H n
    rw [ih fun i hi => h i (by omega), h n (by omega)]
theorem sg_add (G : Nat → Nat) (M : Nat) : ∀ n, sg G (M + n) = sg G M + sg (fun i => G (M + i)) n := by
  intro n
  induction n with
  | zero => rfl
  | succ n ih =>
    show sg G (M + n) + G (M + n) = sg G M + (sg (fun i => G (M + i)) n + G (M + n))
    rw [ih]
    omega
theorem sg_plus (G H : Nat → Nat) : ∀ n, sg (fun i => G i + H i) n = sg G n + sg H n := by
  intro n
  induction n with
  | zero => rfl
  | succ n ih =>
    show sg (fun i => G i + H i) n + (G n + H n) = sg G n + G n + (sg H n + H n)
    rw [ih]
    omega
theorem sg_const (c : Nat) : ∀ n, sg (fun _ => c) n = n * c := by
  intro n
  induction n with
  | zero => simp [sg]
  | succ n ih =>
    show sg (fun _ => c) n + c = (n + 1) * c
    rw [ih, Nat.succ_mul]
theorem sg_hi (G : Nat → Nat) (M : Nat) : ∀ N, sg G (M * N) = sg (fun h => sg (fun n => G (n + M * h)) M) N := by
  intro N
  induction N with
  | zero => rfl
  | succ N ih =>
    rw [Nat.mul_succ, sg_add, ih]
    show _ = sg (fun h => sg (fun n => G (n + M * h)) M) N + sg (fun n => G (n + M * N)) M
    rw [sg_congr (G := fun i => G (M * N + i)) M fun i _ => by rw [Nat.add_comm]]
theorem sg_lo (G : Nat → Nat) (M : Nat) : ∀ N, sg G (M * N) = sg (fun x => sg (fun n => G (x + M * n)) N) M := by
  intro N
  induction N with
  | zero =>
    have : sg (fun _ => 0) M = 0 := by rw [sg_const]; omega
    exact this.symm
  | succ N ih =>
    rw [Nat.mul_succ, sg_add, ih]
    show _ = sg (fun x => sg (fun n => G (x + M * n)) N + G (x + M * N)) M
    rw [sg_plus]
    rw [sg_congr (G := fun i => G (M * N + i)) M fun i _ => by rw [Nat.add_comm]]
theorem sg_sum (G : Nat → Nat) : ∀ n, sg G n = ((List.range n).map G).sum := by
  intro n
  induction n with
  | zero => rfl
  | succ n ih =>
    rw [List.range_succ, List.map_append, List.sum_append, ← ih]
    simp [sg]
theorem sum_perm {l l' : List Nat} (h : l.Perm l') : l.sum = l'.sum := by
  induction h with
  | nil => rfl
  | cons x _ ih => simp [ih]
  | swap x y l => simp; omega
  | trans _ _ h1 h2 => exact h1.trans h2
/-- A change of the first m numbers for one another. -/
structure Chg (m : Nat) (p : Nat → Nat) : Prop where
  perm : ((List.range m).map p).Perm (List.range m)
  lt : ∀ x, x < m → p x < m
  inj : ∀ x y, x < m → y < m → p x = p y → x = y
theorem sg_chg {m : Nat} {p : Nat → Nat} (h : Chg m p) (G : Nat → Nat) : sg (fun y => G (p y)) m = sg G m := by
  rw [sg_sum, sg_sum, ← sum_perm (h.perm.map G), List.map_map]
  rfl
theorem filter_sg (P : Nat → Bool) : ∀ n, ((List.range n).filter P).length = sg (fun y => if P y then 1 else 0) n := by
  intro n
  induction n with
  | zero => rfl
  | succ n ih =>
    rw [List.range_succ, List.filter_append, List.length_append, ih]
    show _ = sg (fun y => if P y then 1 else 0) n + (if P n then 1 else 0)
    cases h : P n <;> simp [h]
theorem oc_sg (t : Nat → Int) (y : Nat) : ∀ n, (∀ i, i < n → 0 ≤ t i) → oc t n y = ((sg (fun i => if t i = (y : Int) then 1 else 0) n : Nat) : Int) := by
  intro n
  induction n with
  | zero => intro _; rfl
  | succ n ih =>
    intro ht
    have h1 := ih fun i hi => ht i (by omega)
    have h2 := ht n (by omega)
    show upd (oc t n) (t n).toNat (oc t n (t n).toNat + 1) y = ((sg (fun i => if t i = (y : Int) then 1 else 0) n + (if t n = (y : Int) then 1 else 0) : Nat) : Int)
    unfold upd
    by_cases e : t n = (y : Int)
    · rw [if_pos (by omega), if_pos e, e, Int.toNat_natCast, h1]
      rfl
    · rw [if_neg (by omega), if_neg e, h1]
      rfl
theorem sg_pos (G : Nat → Nat) : ∀ n, 0 < sg G n ↔ ∃ i, i < n ∧ 0 < G i := by
  intro n
  induction n with
  | zero => simp [sg]
  | succ n ih =>
    show 0 < sg G n + G n ↔ _
    constructor
    · intro h
      by_cases h0 : 0 < sg G n
      · obtain ⟨i, hi, hg⟩ := ih.1 h0
        exact ⟨i, by omega, hg⟩
      · exact ⟨n, by omega, by omega⟩
    · rintro ⟨i, hi, hg⟩
      by_cases e : i = n
      · subst e; omega
      · have := ih.2 ⟨i, by omega, hg⟩
        omega
theorem mt_iff {t : Nat → Int} {n y : Nat} (ht : ∀ i, i < n → 0 ≤ t i) : mt t n y = true ↔ ∃ i, i < n ∧ t i = (y : Int) := by
  unfold mt
  rw [decide_eq_true_iff, oc_sg t y n ht]
  have := sg_pos (fun i => if t i = (y : Int) then 1 else 0) n
  constructor
  · intro h
    obtain ⟨i, hi, hg⟩ := this.1 (by omega)
    refine ⟨i, hi, ?_⟩
    by_cases e : t i = (y : Int)
    · exact e
    · rw [if_neg e] at hg; omega
  · rintro ⟨i, hi, e⟩
    have := this.2 ⟨i, hi, by rw [if_pos e]; omega⟩
    omega
/-- How many values. -/
def nv (m : Nat) (t : Nat → Int) : Nat := ((List.range m).filter (mt t m)).length
theorem nv_le (m : Nat) (t : Nat → Int) : nv m t ≤ m := by
  have := List.length_filter_le (mt t m) (List.range m)
  rw [List.length_range] at this
  exact this
theorem oc_congr {t t' : Nat → Int} : ∀ n, (∀ i, i < n → t i = t' i) → oc t n = oc t' n := by
  intro n
  induction n with
  | zero => intro _; rfl
  | succ n ih =>
    intro h
    show upd (oc t n) (t n).toNat (oc t n (t n).toNat + 1) = upd (oc t' n) (t' n).toNat (oc t' n (t' n).toNat + 1)
    rw [ih fun i hi => h i (by omega), h n (by omega)]
theorem nv_congr {m : Nat} {t t' : Nat → Int} (h : ∀ i, i < m → t i = t' i) : nv m t = nv m t' := by
  unfold nv mt
  rw [oc_congr m h]
theorem nv_chg {m : Nat} {p : Nat → Nat} (hp : Chg m p) {t t' : Nat → Int} (ht : ∀ i, i < m → El (m : Int) (t i)) (h : ∀ i, i < m → t' i = (p (t i).toNat : Nat)) : nv m t' = nv m t := by
  unfold nv
  rw [filter_sg, filter_sg, ← sg_chg hp]
  refine sg_congr m fun y hy => ?_
  have h1 : ∀ i, i < m → 0 ≤ t' i := fun i hi => by rw [h i hi]; omega
  have h2 : ∀ i, i < m → 0 ≤ t i := fun i hi => (ht i hi).1
  have e : mt t' m (p y) = mt t m y := by
    rw [Bool.eq_iff_iff, mt_iff h1, mt_iff h2]
    constructor
    · rintro ⟨i, hi, e⟩
      rw [h i hi] at e
      have hti := ht i hi
      have h3 := hti.1
      have h4 := hti.2
      have := hp.inj _ _ (show (t i).toNat < m by omega) hy (by omega)
      exact ⟨i, hi, by omega⟩
    · rintro ⟨i, hi, e⟩
      exact ⟨i, hi, by rw [h i hi, e, Int.toNat_natCast]⟩
  rw [e]
/-- Products with an element other than 0, sums with an element: changes. -/
def chgOK (q : Nat) (p : Nat → Nat) : Bool := ((List.range q).map p).isPerm (List.range q) && ((List.range q).all fun x => decide (p x < q) && (List.range q).all fun y => !(p x == p y) || x == y)
theorem chg_of {q : Nat} {p : Nat → Nat} (h : chgOK q p = true) : Chg q p := by
  simp only [chgOK, Bool.and_eq_true, List.all_eq_true, List.mem_range, decide_eq_true_iff] at h
  refine ⟨List.isPerm_iff.1 h.1, fun x hx => (h.2 x hx).1, fun x y hx hy e => ?_⟩
  have := (h.2 x hx).2 y hy
  rw [e] at this
  simpa using this
def chgT : Bool := sizes.all fun q => (List.range q.toNat).all fun a => (a == 0 || chgOK q.toNat fun x => (mulF q (a : Int) (x : Int)).toNat) && chgOK q.toNat fun x => (addF q (a : Int) (x : Int)).toNat
set_option maxRecDepth 100000 in
theorem chgT_ok : chgT = true := by decide +kernel
theorem chg_both {m a : Nat} (h : isSz (m : Int) = true) (ha : a < m) : (a ≠ 0 → Chg m fun x => (mulF (m : Int) (a : Int) (x : Int)).toNat) ∧ Chg m fun x => (addF (m : Int) (a : Int) (x : Int)).toNat := by
  have h1 := chgT_ok
  simp only [chgT, List.all_eq_true, List.mem_range, Bool.and_eq_true, Bool.or_eq_true, beq_iff_eq] at h1
  have h2 := h1 (m : Int) (by unfold isSz at h; exact List.elem_iff.1 h) a (by omega)
  exact ⟨fun hn => chg_of (by rcases h2.1 with h3 | h3; · exact absurd h3 hn
                              · exact h3), chg_of h2.2⟩
theorem nv_mul {m a : Nat} (h : isSz (m : Int) = true) (ha : a < m) (h0 : a ≠ 0) {t t' : Nat → Int} (ht : ∀ i, i < m → El (m : Int) (t i)) (e : ∀ i, i < m → t' i = mulF (m : Int) (a : Int) (t i)) : nv m t' = nv m t := by
  refine nv_chg ((chg_both h ha).1 h0) ht fun i hi => ?_
  have h1 := (ht i hi).1
  have h2 := El.mul h (El.nat ha) (ht i hi)
  rw [e i hi, Int.toNat_of_nonneg h1, Int.toNat_of_nonneg h2.1]
theorem nv_add {m a : Nat} (h : isSz (m : Int) = true) (ha : a < m) {t t' : Nat → Int} (ht : ∀ i, i < m → El (m : Int) (t i)) (e : ∀ i, i < m → t' i = addF (m : Int) (a : Int) (t i)) : nv m t' = nv m t := by
  refine nv_chg (chg_both h ha).2 ht fun i hi => ?_
  have h1 := (ht i hi).1
  have h2 := El.add h (El.nat ha) (ht i hi)
  rw [e i hi, Int.toNat_of_nonneg h1, Int.toNat_of_nonneg h2.1]
/-- The digits of a number. -/
def dgt (m n : Nat) : Nat → Int := fun i => ((n / m ^ i % m : Nat) : Int)
def csn (x : Int) (f : Nat → Int) : Nat → Int := fun i => if i = 0 then x else f (i - 1)
def scl (m a : Nat) (f : Nat → Int) : Nat → Int := fun i => mulF (m : Int) (a : Int) (f i)
theorem dgt_el {m n : Nat} (hm : 1 ≤ m) (i : Nat) : El (m : Int) (dgt m n i) := by
  have := Nat.mod_lt (n / m ^ i) (show 0 < m by omega)
  unfold dgt El
  omega
theorem dgt_cons {m x n : Nat} (hx : x < m) : dgt m (x + m * n) = csn (x : Int) (dgt m n) := by
  funext i
  unfold csn dgt
  by_cases hi : i = 0
  · subst hi
    rw [if_pos rfl, Nat.pow_zero, Nat.div_one, Nat.add_mul_mod_self_left, Nat.mod_eq_of_lt hx]
  · obtain ⟨j, rfl⟩ : ∃ j, i = j + 1 := ⟨i - 1, by omega⟩
    rw [if_neg hi, Nat.add_sub_cancel, Nat.pow_succ, Nat.mul_comm (m ^ j) m, ← Nat.div_div_eq_div_mul, Nat.add_mul_div_left _ _ (show 0 < m by omega), Nat.div_eq_of_lt hx, Nat.zero_add]
/-- Sums over all digits. -/
def rs (m d : Nat) (H : (Nat → Int) → Nat) : Nat := sg (fun n => H (dgt m n)) (m ^ d)
theorem rs_congr {m d : Nat} {H H' : (Nat → Int) → Nat} (h : ∀ n, H (dgt m n) = H' (dgt m n)) : rs m d H = rs m d H' := sg_congr _ fun i _ => h i
theorem rs_succ (m d : Nat) (H : (Nat → Int) → Nat) : rs m (d + 1) H = sg (fun x => rs m d fun f => H (csn (x : Int) f)) m := by
  unfold rs
  rw [Nat.pow_succ, Nat.mul_comm, sg_lo]
  refine sg_congr m fun x hx => sg_congr _ fun n _ => ?_
  rw [dgt_cons hx]
theorem scl_cons (m a x : Nat) (h : isSz (m : Int) = true) (ha : a < m) (hx : x < m) (f : Nat → Int) : scl m a (csn (x : Int) f) = csn (((mulF (m : Int) (a : Int) (x : Int)).toNat : Nat) : Int) (scl m a f) := by
  funext i
  by_cases hi : i = 0
  · subst hi
    show mulF (m : Int) (a : Int) (x : Int) = (((mulF (m : Int) (a : Int) (x : Int)).toNat : Nat) : Int)
    rw [Int.toNat_of_nonneg (El.mul h (El.nat ha) (El.nat hx)).1]
  · show mulF (m : Int) (a : Int) (if i = 0 then (x : Int) else f (i - 1)) = if i = 0 then _ else mulF (m : Int) (a : Int) (f (i - 1))
    rw [if_neg hi, if_neg hi]
theorem rs_scl {m a : Nat} (h : isSz (m : Int) = true) (ha : a < m) (h0 : a ≠ 0) : ∀ d (H : (Nat → Int) → Nat), rs m d (fun f => H (scl m a f)) = rs m d H := by
  intro d
  induction d with
  | zero =>
    intro H
    have e : scl m a (dgt m 0) = dgt m 0 := by
      funext i
      unfold scl dgt
      rw [Nat.zero_div, Nat.zero_mod]
      exact (mul_zero' h (El.nat ha)).2
    show 0 + H (scl m a (dgt m 0)) = 0 + H (dgt m 0)
    rw [e]
  | succ d ih =>
    intro H
    rw [rs_succ, rs_succ]
    rw [← sg_chg ((chg_both h ha).1 h0) (fun x => rs m d fun f => H (csn (x : Int) f))]
    refine sg_congr m fun x hx => ?_
    rw [← ih (fun f => H (csn (((mulF (m : Int) (a : Int) (x : Int)).toNat : Nat) : Int) f))]
    refine rs_congr fun n => ?_
    rw [scl_cons m a x h ha hx]
/-- A last coefficient. -/
def topF (d : Nat) (a : Int) (f : Nat → Int) : Nat → Int := fun i => if i < d then f i else if i = d then a else 0
theorem topF_el {m d : Nat} {a : Int} {f : Nat → Int} (h : isSz (m : Int) = true) (ha : El (m : Int) a) (hf : ∀ i, El (m : Int) (f i)) (i : Nat) : El (m : Int) (topF d a f i) := by
  unfold topF
  split
  · exact hf i
  · split
    · exact ha
    · exact El.zero h
/-- The table of values. -/
def vt (m d : Nat) (a : Int) (f : Nat → Int) : Nat → Int := fun x => val (m : Int) (topF d a f) (d + 1) (x : Int)
theorem vt_el {m d : Nat} {a : Int} {f : Nat → Int} (h : isSz (m : Int) = true) (ha : El (m : Int) a) (hf : ∀ i, El (m : Int) (f i)) (x : Nat) (hx : x < m) : El (m : Int) (vt m d a f x) := val_el h (topF_el h ha hf) (El.nat hx) _
theorem vt_scl {m d a : Nat} {f : Nat → Int} (h : isSz (m : Int) = true) (ha : a < m) (hf : ∀ i, El (m : Int) (f i)) (x : Nat) (hx : x < m) : vt m d (a : Int) (scl m a f) x = mulF (m : Int) (a : Int) (vt m d 1 f x) := by
  have hel := topF_el (d := d) h (El.one h) hf
  unfold vt val
  rw [← lsum_mul h (El.nat ha) fun i _ => (hel i).mul h (El.pw h (El.nat hx) i)]
  refine lsum_congr fun i _ => ?_
  rw [← mul_assoc' h (El.nat ha) (hel i) (El.pw h (El.nat hx) i)]
  congr 1
  unfold topF scl
  split
  · rfl
  · split
    · exact (mul_one' h (El.nat ha)).2.symm
    · exact (mul_zero' h (El.nat ha)).2.symm
theorem vt_cons {m d x : Nat} {f : Nat → Int} (h : isSz (m : Int) = true) (hx : x < m) (hf : ∀ i, El (m : Int) (f i)) (y : Nat) (hy : y < m) : vt m (d + 1) 1 (csn (x : Int) f) y = addF (m : Int) (x : Int) (vt m (d + 1) 1 (csn 0 f) y) := by
  have hc : ∀ c, El (m : Int) c → ∀ i, El (m : Int) (csn c f i) := fun c hc i => by
    unfold csn
    split
    · exact hc
    · exact hf _
  have h1 := topF_el (d := d + 1) h (El.one h) (hc _ (El.nat hx))
  have h2 := topF_el (d := d + 1) h (El.one h) (hc _ (El.zero h))
  have hp := fun i => El.pw h (El.nat hy) i
  unfold vt val
  rw [lsum_front h fun i _ => (h1 i).mul h (hp i), lsum_front h fun i _ => (h2 i).mul h (hp i)]
  have e0 : ∀ c, topF (d + 1) 1 (csn c f) 0 = c := fun c => by simp [topF, csn]
  have e1 : ∀ i, topF (d + 1) 1 (csn (x : Int) f) (i + 1) = topF (d + 1) 1 (csn 0 f) (i + 1) := fun i => by simp [topF, csn]
  simp only [e0, e1]
  rw [show pw (m : Int) (y : Int) 0 = 1 from rfl, (mul_one' h (El.nat hx)).2, (mul_one' h (El.zero h)).2, (add_zero' h (lsum_el h fun i _ => (h2 (i + 1)).mul h (hp (i + 1)))).2]
/-- How many of all polynomials of a degree have k values. -/
def allV (m d k : Nat) : Nat := sg (fun n => if nv m (vt m d ((1 + n / m ^ d : Nat) : Int) (dgt m n)) = k then 1 else 0) (m ^ d * (m - 1))
def plainV (m d k : Nat) : Nat := sg (fun j => if nv m (vt m d 1 (dgt m (m * j))) = k then 1 else 0) (m ^ (d - 1))
theorem topF_low {d : Nat} {a : Int} {f g : Nat → Int} (h : ∀ i, i < d → f i = g i) : topF d a f = topF d a g := by
  funext i
  unfold topF
  split
  · exact h i (by assumption)
  · rfl
theorem dgt_low {m d n hi i : Nat} (hm : 1 ≤ m) (h : i < d) : dgt m (n + m ^ d * hi) i = dgt m n i := by
  unfold dgt
  have e : m ^ d = m ^ i * (m * m ^ (d - i - 1)) := by
    rw [← Nat.mul_assoc, ← Nat.pow_succ, ← Nat.pow_add]
    congr 1
    omega
  rw [e, Nat.mul_assoc, Nat.add_mul_div_left _ _ (Nat.pow_pos (by omega)), Nat.mul_assoc, Nat.add_mul_mod_self_left]
theorem all_plain {m d k : Nat} (h : isSz (m : Int) = true) (hd : 1 ≤ d) : allV m d k = (m - 1) * (m * plainV m d k) := by
  have hq := isSz_le (m : Int) h
  have hm : 2 ≤ m := by omega
  have hde : ∀ n i, El (m : Int) (dgt m n i) := fun n i => dgt_el (by omega) i
  unfold allV
  rw [sg_hi]
  have h1 : ∀ hi, hi < m - 1 → sg (fun n => if nv m (vt m d ((1 + (n + m ^ d * hi) / m ^ d : Nat) : Int) (dgt m (n + m ^ d * hi))) = k then 1 else 0) (m ^ d) = rs m d (fun f => if nv m (vt m d 1 f) = k then 1 else 0) := fun hi hhi => by
    have ha : 1 + hi < m := by omega
    have h2 : rs m d (fun f => if nv m (vt m d ((1 + hi : Nat) : Int) (scl m (1 + hi) f)) = k then 1 else 0) = rs m d (fun f => if nv m (vt m d ((1 + hi : Nat) : Int) f) = k then 1 else 0) := rs_scl h ha (by omega) d (fun f => if nv m (vt m d ((1 + hi : Nat) : Int) f) = k then 1 else 0)
    have h3 : rs m d (fun f => if nv m (vt m d ((1 + hi : Nat) : Int) (scl m (1 + hi) f)) = k then 1 else 0) = rs m d (fun f => if nv m (vt m d 1 f) = k then 1 else 0) := rs_congr fun n => by
      rw [nv_mul h ha (by omega) (fun i hi => vt_el h (El.one h) (hde n) i hi) fun i hi => vt_scl h ha (hde n) i hi]
    rw [← h3, h2]
    refine sg_congr _ fun n hn => ?_
    have e1 : (n + m ^ d * hi) / m ^ d = hi := by rw [Nat.add_mul_div_left _ _ (Nat.pow_pos (by omega)), Nat.div_eq_of_lt hn, Nat.zero_add]
    have e2 : vt m d ((1 + hi : Nat) : Int) (dgt m (n + m ^ d * hi)) = vt m d ((1 + hi : Nat) : Int) (dgt m n) := by
      unfold vt
      rw [topF_low fun i hi => dgt_low (by omega) hi]
    rw [e1, e2]
  rw [sg_congr _ h1, sg_const]
  congr 1
  obtain ⟨e, rfl⟩ : ∃ e, d = e + 1 := ⟨d - 1, by omega⟩
  rw [rs_succ]
  have h2 : ∀ x, x < m → rs m e (fun f => if nv m (vt m (e + 1) 1 (csn (x : Int) f)) = k then 1 else 0) = plainV m (e + 1) k := fun x hx => by
    unfold plainV
    rw [Nat.add_sub_cancel]
    refine sg_congr _ fun n _ => ?_
    have e1 : dgt m (m * n) = csn 0 (dgt m n) := by
      have := dgt_cons (m := m) (x := 0) (n := n) (by omega)
      rw [Nat.zero_add] at this
      exact this
    have hz : ∀ i, El (m : Int) (csn 0 (dgt m n) i) := fun i => by
      unfold csn
      by_cases hi : i = 0
      · rw [if_pos hi]; exact El.zero h
      · rw [if_neg hi]; exact hde n _
    have e2 : nv m (vt m (e + 1) 1 (csn (x : Int) (dgt m n))) = nv m (vt m (e + 1) 1 (csn 0 (dgt m n))) := nv_add h hx (fun i hi => vt_el h (El.one h) hz i hi) fun i hi => vt_cons h hx (hde n) i hi
    show (if nv m (vt m (e + 1) 1 (csn (x : Int) (dgt m n))) = k then 1 else 0) = (if nv m (vt m (e + 1) 1 (dgt m (m * n))) = k then 1 else 0)
    rw [e2, e1]
  rw [sg_congr _ h2, sg_const]
/-- Degree 0: each constant other than 0 has one value. -/
theorem nv_const {m a : Nat} (ha : a < m) {t : Nat → Int} (e : ∀ i, i < m → t i = (a : Int)) : nv m t = 1 := by
  have h0 : ∀ i, i < m → 0 ≤ t i := fun i hi => by rw [e i hi]; omega
  unfold nv
  have : ∀ y, y < m → mt t m y = decide (y = a) := fun y hy => by
    rw [Bool.eq_iff_iff, mt_iff h0, decide_eq_true_iff]
    constructor
    · rintro ⟨i, hi, h⟩
      rw [e i hi] at h
      omega
    · rintro rfl
      exact ⟨y, hy, e y hy⟩
  rw [filter_sg, sg_congr m fun y hy => by rw [this y hy]]
  have h1 : ∀ n, sg (fun y => if decide (y = a) = true then 1 else 0) n = if a < n then 1 else 0 := by
    intro n
    induction n with
    | zero => rfl
    | succ n ih =>
      show sg (fun y => if decide (y = a) = true then 1 else 0) n + (if decide (n = a) = true then 1 else 0) = _
      rw [ih]
      by_cases h2 : n = a
      · rw [if_neg (by omega), if_pos (by simpa using h2), if_pos (by omega)]
      · rw [if_neg (c := decide (n = a) = true) (by simpa using h2)]
        by_cases h3 : a < n
        · rw [if_pos h3, if_pos (by omega)]
        · rw [if_neg h3, if_neg (by omega)]
  rw [h1, if_pos ha]
end Go.Proofs.YtapglncgicfjnabGreat
/-! RA -/
namespace Go.Proofs.YtapglncgicfjnabGreat
/-- The power i of the prime. -/
def pp (q : Int) (i : Nat) : Nat := (pr q).toNat ^ i
/-- One of the powers of x in additive polynomials. -/
def isPw (q : Int) (j : Nat) : Bool := (List.range (plN q)).any fun i => pp q i == j
theorem pp_lt (q : Int) (h : isSz q = true) (i : Nat) (hi : i < plN q) : 1 ≤ pp q i ∧ (pp q i : Int) < q := by
  have hq := isSz_le q h
  have hc := of_chk1 (f := fun q _ => (List.range (plN q)).all fun i => decide (1 ≤ pp q i ∧ (pp q i : Int) < q)) (by decide +kernel) q 0 h (by omega) (by omega)
  exact of_decide_eq_true (List.all_eq_true.1 hc i (List.mem_range.2 hi))
/-- The table of a map that keeps sums. -/
def adI (m : Nat) (t : Nat → Int) : Bool := (List.range m).all fun x => (List.range m).all fun y => t (addF m (x : Int) (y : Int)).toNat == addF m (t x) (t y)
theorem adI_at {m : Nat} {t : Nat → Int} (ha : adI m t = true) {x y : Int} (hx : El (m : Int) x) (hy : El (m : Int) y) : t (addF m x y).toNat = addF m (t x.toNat) (t y.toNat) := by
  obtain ⟨a, rfl⟩ := Int.eq_ofNat_of_zero_le hx.1
  obtain ⟨b, rfl⟩ := Int.eq_ofNat_of_zero_le hy.1
  have h1 := List.all_eq_true.1 (List.all_eq_true.1 ha a (List.mem_range.2 (by have := hx.2; omega))) b (List.mem_range.2 (by have := hy.2; omega))
  simpa using h1
theorem adI_of {m : Nat} {t : Nat → Int} (ha : ∀ x y : Nat, x < m → y < m → t (addF m (x : Int) (y : Int)).toNat = addF m (t x) (t y)) : adI m t = true :=
  List.all_eq_true.2 fun x hx => List.all_eq_true.2 fun y hy => by simpa using ha x y (List.mem_range.1 hx) (List.mem_range.1 hy)
theorem adI_congr {m : Nat} {t u : Nat → Int} (h : isSz (m : Int) = true) (e : ∀ i, i < m → t i = u i) : adI m t = adI m u := by
  have key : ∀ {t u : Nat → Int}, (∀ i, i < m → t i = u i) → adI m t = true → adI m u = true := fun {t u} e ha => adI_of fun x y hx hy => by
    have h1 := adI_at ha (El.nat hx) (El.nat hy)
    have h2 := (El.nat hx).add h (El.nat hy)
    simp only [Int.toNat_natCast] at h1
    rw [← e _ (by have := h2.1; have := h2.2; omega), h1, e x hx, e y hy]
  cases h1 : adI m t with
  | true => exact (key e h1).symm
  | false =>
    cases h2 : adI m u with
    | false => rfl
    | true => rw [key (fun i hi => (e i hi).symm) h2] at h1; cases h1
set_option maxRecDepth 100000 in
theorem frob {q x y : Int} (h : isSz q = true) (hx : El q x) (hy : El q y) (j : Nat) (hj : isPw q j = true) : pw q (addF q x y) j = addF q (pw q x j) (pw q y j) := by
  have hc := of_chk2 (f := fun q x y => (List.range (plN q)).all fun i => pw q (addF q x y) (pp q i) == addF q (pw q x (pp q i)) (pw q y (pp q i))) (by decide +kernel) q x y h hx.1 hx.2 hy.1 hy.2
  obtain ⟨i, hi, he⟩ := List.any_eq_true.1 hj
  have h1 := List.all_eq_true.1 hc i hi
  rw [← eq_of_beq he]
  exact eq_of_beq h1
/-- Polynomials with terms at powers of the prime alone keep sums. -/
theorem val_addit {m : Nat} {r : Nat → Int} (h : isSz (m : Int) = true) (hr : ∀ i, El m (r i)) (hp : ∀ j, j < m → r j = 0 ∨ isPw m j = true) {x y : Int} (hx : El m x) (hy : El m y) :
    val m r m (addF m x y) = addF m (val m r m x) (val m r m y) := by
  unfold val
  rw [← lsum_add h (fun i _ => (hr i).mul h (El.pw h hx i)) (fun i _ => (hr i).mul h (El.pw h hy i))]
  refine lsum_congr fun j hj => ?_
  rcases hp j hj with h0 | h1
  · rw [h0, (mul_zero' h (El.pw h (hx.add h hy) j)).1, (mul_zero' h (El.pw h hx j)).1, (mul_zero' h (El.pw h hy j)).1]
    exact (add_zero' h (El.zero h)).1.symm
  · rw [frob h hx hy j h1, mul_add' h (hr j) (El.pw h hx j) (El.pw h hy j)]
set_option maxRecDepth 100000 in
theorem add_self {q a : Int} (h : isSz q = true) (ha : El q a) (e : addF q a a = a) : a = 0 := by
  have hc := of_chk1 (f := fun q a => !(addF q a a == a) || a == 0) (by decide +kernel) q a h ha.1 ha.2
  rw [e] at hc
  simpa using hc
set_option maxRecDepth 100000 in
theorem add_same {q a b : Int} (h : isSz q = true) (ha : El q a) (hb : El q b) : (addF q a b = b) = (a = 0) := by
  have hc := of_chk2 (f := fun q a b => (addF q a b == b) == (a == 0)) (by decide +kernel) q a b h ha.1 ha.2 hb.1 hb.2
  have h1 := eq_of_beq hc
  apply propext
  constructor
  · intro e; rw [e] at h1; simpa using h1.symm
  · intro e; rw [show (a == 0) = true by simpa using e] at h1; simpa using h1
set_option maxRecDepth 100000 in
theorem mul_next {q c b : Int} (h : isSz q = true) (hc : El q c) (hb : El q b) (h1 : c + 1 < pr q) : mulF q (c + 1) b = addF q (mulF q c b) b := by
  have hk := of_chk2 (f := fun q c b => !decide (c + 1 < pr q) || mulF q (c + 1) b == addF q (mulF q c b) b) (by decide +kernel) q c b h hc.1 hc.2 hb.1 hb.2
  simp only [h1, decide_true, Bool.not_true, Bool.false_or] at hk
  exact eq_of_beq hk
theorem pr_le {q : Int} (h : isSz q = true) : pr q ≤ q := by
  rcases sz_split q h with rfl | rfl | rfl | rfl | rfl | rfl | rfl | rfl | rfl | rfl <;> decide
theorem ad_zero {m : Nat} {t : Nat → Int} (h : isSz (m : Int) = true) (ht : ∀ i, i < m → El m (t i)) (ha : adI m t = true) : t 0 = 0 := by
  have hq := isSz_le (m : Int) h
  have h1 := adI_at ha (El.zero h) (El.zero h)
  rw [(add_zero' h (El.zero h)).1] at h1
  exact add_self h (ht 0 (by omega)) h1.symm
theorem ad_scale {m : Nat} {t : Nat → Int} (h : isSz (m : Int) = true) (ht : ∀ i, i < m → El m (t i)) (ha : adI m t = true) {x : Int} (hx : El m x) : ∀ c : Nat, (c : Int) < pr m → t (mulF m c x).toNat = mulF m c (t x.toNat) := by
  have hp := pr_le h
  have hxn : x.toNat < m := by have := hx.1; have := hx.2; omega
  intro c
  induction c with
  | zero =>
    intro _
    rw [Int.natCast_zero, (mul_zero' h hx).1, (mul_zero' h (ht _ hxn)).1]
    exact ad_zero h ht ha
  | succ c ih =>
    intro hc
    have hce : El (m : Int) (c : Int) := ⟨by omega, by omega⟩
    rw [Int.natCast_succ, mul_next h hce hx (by omega), mul_next h hce (ht _ hxn) (by omega), adI_at ha (hce.mul h hx) hx, ih (by omega)]
theorem ad_sum {m : Nat} {t u : Nat → Int} (h : isSz (m : Int) = true) (ht : ∀ i, i < m → El m (t i)) (ha : adI m t = true) : ∀ n, (∀ i, i < n → El m (u i)) → t (lsum m u n).toNat = lsum m (fun i => t (u i).toNat) n := by
  intro n
  induction n with
  | zero => intro _; exact ad_zero h ht ha
  | succ n ih =>
    intro hu
    show t (addF m (lsum m u n) (u n)).toNat = addF m (lsum m (fun i => t (u i).toNat) n) (t (u n).toNat)
    rw [adI_at ha (lsum_el h fun i hi => hu i (by omega)) (hu n (by omega)), ih fun i hi => hu i (by omega)]
theorem dg_el {q : Int} (h : isSz q = true) (a : Int) (i : Nat) : El q (dg q a i) := by
  have h1 := dg_bd q a i h
  have h2 := pr_le h
  exact ⟨h1.1, by omega⟩
theorem pp_el {q : Int} (h : isSz q = true) (i : Nat) (hi : i < plN q) : El q (pp q i : Int) := ⟨by omega, (pp_lt q h i hi).2⟩
set_option maxRecDepth 100000 in
theorem by_digits {q a : Int} (h : isSz q = true) (ha : El q a) : a = lsum q (fun i => mulF q (dg q a i) (pp q i : Int)) (plN q) :=
  of_decide_eq_true (of_chk1 (f := fun q a => decide (a = lsum q (fun i => mulF q (dg q a i) (pp q i : Int)) (plN q))) (by decide +kernel) q a h ha.1 ha.2)
/-- The values of a map that keeps sums, by digits. -/
theorem ad_dec {m : Nat} {t : Nat → Int} (h : isSz (m : Int) = true) (ht : ∀ i, i < m → El m (t i)) (ha : adI m t = true) {a : Int} (hx : El m a) : t a.toNat = lsum m (fun i => mulF m (dg m a i) (t (pp m i))) (plN m) := by
  have e := ad_sum h ht ha (u := fun i => mulF m (dg m a i) (pp m i : Int)) (plN m) fun i hi => (dg_el h a i).mul h (pp_el h i hi)
  rw [← by_digits h hx] at e
  rw [e]
  refine lsum_congr fun i hi => ?_
  obtain ⟨c, hc⟩ := Int.eq_ofNat_of_zero_le (dg_bd m a i h).1
  have hb := (dg_bd m a i h).2
  rw [hc] at hb ⊢
  have := ad_scale h ht ha (pp_el h i hi) c hb
  rwa [Int.toNat_natCast] at this
set_option maxRecDepth 100000 in
theorem dg_cf {q : Int} (h : isSz q = true) (i j : Nat) (hi : i < plN q) (hj : (j : Int) < q) (hp : isPw q j = false) : lsum q (fun a => mulF q (dg q (a : Int) i) (cf q (a : Int) j)) q.toNat = 0 := by
  have hc := of_chk1 (f := fun q j => isPw q j.toNat || (List.range (plN q)).all fun i => lsum q (fun a => mulF q (dg q (a : Int) i) (cf q (a : Int) j.toNat)) q.toNat == 0) (by decide +kernel) q (j : Int) h (by omega) hj
  simp only [Int.toNat_natCast, hp, Bool.false_or] at hc
  exact eq_of_beq (List.all_eq_true.1 hc i (List.mem_range.2 hi))
/-- The polynomial of a map that keeps sums has no other terms. -/
theorem ad_coef {m : Nat} {t : Nat → Int} (h : isSz (m : Int) = true) (ht : ∀ i, i < m → El m (t i)) (ha : adI m t = true) (j : Nat) (hj : j < m) (hp : isPw m j = false) : ipl m t m j = 0 := by
  have hT : ∀ i, i < plN m → El m (t (pp m i)) := fun i hi => ht _ (by have := (pp_lt m h i hi).2; omega)
  have e1 : ipl m t m j = lsum m (fun a => lsum m (fun i => mulF m (mulF m (dg m (a : Int) i) (t (pp m i))) (cf m (a : Int) j)) (plN m)) m := by
    unfold ipl
    refine lsum_congr fun a hx => ?_
    have := ad_dec h ht ha (El.nat hx)
    rw [Int.toNat_natCast] at this
    rw [this]
    exact (lsum_mulr h (cf_el h (El.nat hx) j) fun i hi => (dg_el h _ i).mul h (hT i hi)).symm
  rw [e1, lsum_swap h fun a i hx hi => ((dg_el h _ i).mul h (hT i hi)).mul h (cf_el h (El.nat hx) j)]
  refine lsum_zero h fun i hi => ?_
  rw [lsum_congr (v := fun a => mulF m (t (pp m i)) (mulF m (dg m (a : Int) i) (cf m (a : Int) j))) fun a hx => by
      rw [mul_comm' h (dg_el h _ i) (hT i hi), mul_assoc' h (hT i hi) (dg_el h _ i) (cf_el h (El.nat hx) j)],
    lsum_mul h (hT i hi) fun a hx => (dg_el h _ i).mul h (cf_el h (El.nat hx) j)]
  have := dg_cf h i j hi (by omega) hp
  rw [Int.toNat_natCast] at this
  rw [this, (mul_zero' h (hT i hi)).2]
/-- Terms from s on, at powers of the prime alone. -/
def adC (q : Int) (f : Nat → Int) (s n : Nat) : Bool := (List.range n).all fun j => decide (j < s) || (f j == 0 || isPw q j)
theorem adC_all {q : Int} {f : Nat → Int} {s n : Nat} : adC q f s n = true ↔ ∀ j, j < n → s ≤ j → f j = 0 ∨ isPw q j = true := by
  unfold adC
  rw [List.all_eq_true]
  constructor
  · intro ha j hj hs
    have := ha j (List.mem_range.2 hj)
    simp only [Bool.or_eq_true, decide_eq_true_eq, beq_iff_eq] at this
    rcases this with h1 | h1
    · omega
    · exact h1
  · intro ha j hj
    simp only [Bool.or_eq_true, decide_eq_true_eq, beq_iff_eq]
    by_cases hs : j < s
    · exact .inl hs
    · exact .inr (ha j (List.mem_range.1 hj) (by omega))
theorem bool_ext {a b : Bool} (h : a = true ↔ b = true) : a = b := by
  cases a <;> cases b <;> simp_all
/-- A polynomial is additive exactly if it has such terms alone. -/
theorem ad_tell {m n : Nat} {r t : Nat → Int} (h : isSz (m : Int) = true) (hr : ∀ i, El m (r i)) (hn : n ≤ m) (hz : ∀ i, n ≤ i → r i = 0) (ht : ∀ a, a < m → t a = val m r m (a : Int)) : adI m t = adC m r 0 n := by
  have hte : ∀ i, i < m → El m (t i) := fun i hi => by rw [ht i hi]; exact val_el h hr (El.nat hi) m
  apply bool_ext
  rw [adC_all]
  constructor
  · intro ha j hj _
    cases hp : isPw m j with
    | true => exact .inr rfl
    | false =>
      have := ad_coef h hte ha j (by omega) hp
      rw [ipl_val h hr ht j (by omega)] at this
      exact .inl this
  · intro ha
    refine adI_of fun x y hx hy => ?_
    have hs := (El.nat hx).add h (El.nat hy)
    have hs2 : (addF m (x : Int) (y : Int)).toNat < m := by have := hs.1; have := hs.2; omega
    rw [ht _ hs2, ht x hx, ht y hy, Int.toNat_of_nonneg hs.1]
    refine val_addit h hr (fun j hj => ?_) (El.nat hx) (El.nat hy)
    by_cases hjn : j < n
    · exact ha j hjn (Nat.zero_le _)
    · exact .inl (hz j (by omega))
set_option maxRecDepth 100000 in
theorem sub_add {q a b : Int} (h : isSz q = true) (ha : El q a) (hb : El q b) : subF q (addF q a b) a = b :=
  of_decide_eq_true (of_chk2 (f := fun q a b => decide (subF q (addF q a b) a = b)) (by decide +kernel) q a b h ha.1 ha.2 hb.1 hb.2)
theorem val_cut {m : Nat} {r : Nat → Int} (h : isSz (m : Int) = true) (hr : ∀ i, El m (r i)) {x : Int} (hx : El m x) : val m r m x = addF m (r 0) (val m (upd r 0 0) m x) := by
  have hq := isSz_le (m : Int) h
  obtain ⟨k, rfl⟩ : ∃ k, m = k + 1 := ⟨m - 1, by omega⟩
  have hu : ∀ i, El ((k + 1 : Nat) : Int) (upd r 0 0 i) := fun i => by
    unfold upd
    split
    · exact El.zero h
    · exact hr i
  unfold val
  rw [lsum_front h fun i _ => (hr i).mul h (El.pw h hx i), lsum_front (u := fun i => mulF ((k + 1 : Nat) : Int) (upd r 0 0 i) (pw ((k + 1 : Nat) : Int) x i)) h fun i _ => (hu i).mul h (El.pw h hx i)]
  have e0 : mulF ((k + 1 : Nat) : Int) (r 0) (pw ((k + 1 : Nat) : Int) x 0) = r 0 := (mul_one' h (hr 0)).2
  have e1 : mulF ((k + 1 : Nat) : Int) (upd r 0 0 0) (pw ((k + 1 : Nat) : Int) x 0) = 0 := (mul_zero' h (El.pw h hx 0)).1
  have e2 : lsum ((k + 1 : Nat) : Int) (fun i => mulF ((k + 1 : Nat) : Int) (upd r 0 0 (i + 1)) (pw ((k + 1 : Nat) : Int) x (i + 1))) k = lsum ((k + 1 : Nat) : Int) (fun i => mulF ((k + 1 : Nat) : Int) (r (i + 1)) (pw ((k + 1 : Nat) : Int) x (i + 1))) k := lsum_congr fun i _ => by rw [upd_ne _ _ _ _ (by omega)]
  have hz : El ((k + 1 : Nat) : Int) (lsum ((k + 1 : Nat) : Int) (fun i => mulF ((k + 1 : Nat) : Int) (r (i + 1)) (pw ((k + 1 : Nat) : Int) x (i + 1))) k) := lsum_el h fun i _ => (hr (i + 1)).mul h (El.pw h hx (i + 1))
  simp only [e0, e1, e2, (add_zero' h hz).2]
/-- A polynomial is an additive one with an element added exactly if it has such terms alone behind the first. -/
theorem ad_moved {m n : Nat} {r t : Nat → Int} (h : isSz (m : Int) = true) (hr : ∀ i, El m (r i)) (hn : n ≤ m) (hz : ∀ i, n ≤ i → r i = 0) (ht : ∀ a, a < m → t a = val m r m (a : Int)) : adI m (fun a => subF m (t a) (t 0)) = adC m r 1 n := by
  have hq := isSz_le (m : Int) h
  have hu : ∀ i, El (m : Int) (upd r 0 0 i) := fun i => by
    unfold upd
    split
    · exact El.zero h
    · exact hr i
  have h0 : t 0 = r 0 := by
    rw [ht 0 (by omega), Int.natCast_zero, val_cut h hr (El.zero h)]
    have : val m (upd r 0 0) m 0 = 0 := lsum_zero h fun i _ => by
      cases i with
      | zero => exact (mul_zero' h (El.pw h (El.zero h) 0)).1
      | succ i => rw [show pw m 0 (i + 1) = 0 from (mul_zero' h (El.pw h (El.zero h) i)).2]; exact (mul_zero' h (hu _)).2
    rw [this, (add_zero' h (hr 0)).1]
  rw [ad_tell (r := upd r 0 0) (n := n) h hu hn ?_ ?_]
  · apply bool_ext
    rw [adC_all, adC_all]
    constructor
    · intro ha j hj hs
      have := ha j hj (Nat.zero_le _)
      rwa [upd_ne _ _ _ _ (by omega)] at this
    · intro ha j hj _
      cases j with
      | zero => exact .inl (upd_at _ _ _)
      | succ j => rw [upd_ne _ _ _ _ (by omega)]; exact ha _ hj (by omega)
  · intro i hi
    unfold upd
    split
    · rfl
    · exact hz i hi
  · intro a hx
    show subF m (t a) (t 0) = _
    rw [h0, ht a hx, val_cut h hr (El.nat hx), sub_add h (hr 0) (val_el h hu (El.nat hx) m)]
/-! ### how many values -/
theorem oc_cnt {m : Nat} {t : Nat → Int} (y : Nat) : ∀ n, (∀ i, i < n → El (m : Int) (t i)) → oc t n y = ((List.range n).countP fun x => t x == (y : Int) : Nat) := by
  intro n
  induction n with
  | zero => intro _; rfl
  | succ n ih =>
    intro ht
    have h1 := ih fun i hi => ht i (by omega)
    obtain ⟨k, hk⟩ := Int.eq_ofNat_of_zero_le (ht n (by omega)).1
    rw [oc_succ t n k hk, List.range_succ, List.countP_append]
    by_cases e : y = k
    · subst e
      rw [upd_at, h1]
      simp [hk]
    · rw [upd_ne _ _ _ _ e, h1]
      have : ¬ ((k : Int) = (y : Int)) := by omega
      simp [hk, this]
theorem oc_total {m : Nat} {t : Nat → Int} : ∀ n, (∀ i, i < n → El (m : Int) (t i)) → sg (fun y => (oc t n y).toNat) m = n := by
  intro n
  induction n with
  | zero =>
    intro _
    show sg (fun _ => 0) m = 0
    rw [sg_const]; omega
  | succ n ih =>
    intro ht
    have h1 := ih fun i hi => ht i (by omega)
    obtain ⟨k, hk⟩ := Int.eq_ofNat_of_zero_le (ht n (by omega)).1
    have hkm : k < m := by have := (ht n (by omega)).2; omega
    have hb := oc_bd t n
    rw [oc_succ t n k hk]
    have key : ∀ M, sg (fun y => (upd (oc t n) k (oc t n k + 1) y).toNat) M = sg (fun y => (oc t n y).toNat) M + if k < M then 1 else 0 := by
      intro M
      induction M with
      | zero => rfl
      | succ M ihM =>
        show sg (fun y => (upd (oc t n) k (oc t n k + 1) y).toNat) M + (upd (oc t n) k (oc t n k + 1) M).toNat = sg (fun y => (oc t n y).toNat) M + (oc t n M).toNat + if k < M + 1 then 1 else 0
        rw [ihM]
        have hbk := hb k
        by_cases e : M = k
        · subst e
          rw [upd_at, if_neg (by omega), if_pos (by omega)]
          omega
        · rw [upd_ne _ _ _ _ e]
          by_cases e2 : k < M
          · rw [if_pos e2, if_pos (by omega)]; omega
          · rw [if_neg e2, if_neg (by omega)]; omega
    rw [key m, if_pos hkm, h1]
set_option maxRecDepth 100000 in
theorem add_perm {m : Nat} (h : isSz (m : Int) = true) (b : Nat) (hb : b < m) : ((List.range m).map fun x : Nat => (addF m (x : Int) (b : Int)).toNat).Perm (List.range m) := by
  have hc := of_chk1 (f := fun q b => ((List.range q.toNat).map fun x : Nat => (addF q (x : Int) b).toNat).isPerm (List.range q.toNat)) (by decide +kernel) (m : Int) (b : Int) h (by omega) (by omega)
  rw [Int.toNat_natCast] at hc
  exact List.isPerm_iff.1 hc
/-- Each value is met as often as 0. -/
theorem ad_even {m : Nat} {t : Nat → Int} (h : isSz (m : Int) = true) (ht : ∀ i, i < m → El m (t i)) (ha : adI m t = true) (b : Nat) (hb : b < m) : oc t m (t b).toNat = oc t m 0 := by
  rw [oc_cnt (m := m) _ m ht, oc_cnt (m := m) _ m ht]
  have hp := (add_perm h b hb).countP_eq (fun x => t x == ((t b).toNat : Int))
  rw [← hp, List.countP_map]
  congr 1
  refine List.countP_congr fun x hx => ?_
  have hx' := List.mem_range.1 hx
  have e := adI_at ha (El.nat hx') (El.nat hb)
  simp only [Int.toNat_natCast] at e
  simp only [Function.comp, beq_iff_eq]
  rw [e, Int.toNat_of_nonneg (ht b hb).1, add_same h (ht x hx') (ht b hb)]
  simp
theorem sg_mul (c : Nat) (G : Nat → Nat) : ∀ n, sg (fun i => c * G i) n = c * sg G n := by
  intro n
  induction n with
  | zero => rfl
  | succ n ih =>
    show sg (fun i => c * G i) n + c * G n = c * (sg G n + G n)
    rw [ih, Nat.mul_add]
/-- As many values as the size divided by the elements of the kernel. -/
theorem ad_share {m : Nat} {t : Nat → Int} (h : isSz (m : Int) = true) (ht : ∀ i, i < m → El m (t i)) (ha : adI m t = true) : (oc t m 0).toNat * sg (fun y => if decide (0 < oc t m y) then 1 else 0) m = m := by
  rw [← sg_mul]
  refine Eq.trans (sg_congr m fun y hy => ?_) (oc_total (m := m) m ht)
  by_cases hp : 0 < oc t m y
  · simp only [decide_eq_true hp, if_pos]
    have hc := oc_cnt (m := m) y m ht
    have : 0 < (List.range m).countP fun x => t x == (y : Int) := by omega
    obtain ⟨x, hx, hxy⟩ := List.countP_pos_iff.1 this
    have e := ad_even h ht ha x (List.mem_range.1 hx)
    rw [eq_of_beq hxy, Int.toNat_natCast] at e
    rw [e]
    omega
  · simp only [decide_eq_false hp]
    have := oc_bd t m y
    simp
    omega
set_option maxRecDepth 100000 in
theorem div_pow {q : Int} (h : isSz q = true) (z n : Nat) (e : z * n = q.toNat) : ∃ r, r ≤ plN q ∧ n = pp q r := by
  have hq := isSz_le q h
  have hc := of_chk1 (f := fun q _ => (List.range 17).all fun z => (List.range 17).all fun n => !(z * n == q.toNat) || (List.range (plN q + 1)).any fun r => n == pp q r) (by decide +kernel) q 0 h (by omega) (by omega)
  have hz : 1 ≤ z := by cases z with
    | zero => rw [Nat.zero_mul] at e; omega
    | succ z => omega
  have hn : 1 ≤ n := by cases n with
    | zero => rw [Nat.mul_zero] at e; omega
    | succ n => omega
  have h1 : z ≤ z * n := Nat.le_mul_of_pos_right z hn
  have h2 : n ≤ z * n := Nat.le_mul_of_pos_left n hz
  have h3 := List.all_eq_true.1 (List.all_eq_true.1 hc z (List.mem_range.2 (by omega))) n (List.mem_range.2 (by omega))
  simp only [e, beq_self_eq_true, Bool.not_true, Bool.false_or] at h3
  obtain ⟨r, hr, he⟩ := List.any_eq_true.1 h3
  exact ⟨r, by have := List.mem_range.1 hr; omega, eq_of_beq he⟩
/-- The rank. -/
theorem ad_rank {m : Nat} {t : Nat → Int} (h : isSz (m : Int) = true) (ht : ∀ i, i < m → El m (t i)) (ha : adI m t = true) : ∃ r, r ≤ plN m ∧ sg (fun y => if decide (0 < oc t m y) then 1 else 0) m = pp m r :=
  div_pow h _ _ (by rw [ad_share h ht ha, Int.toNat_natCast])
end Go.Proofs.YtapglncgicfjnabGreat
/-! RB -/
namespace Go.Proofs.YtapglncgicfjnabGreat
open Go.RowKit
/-- The powers of the prime, as numbers. -/
def ppf (q : Int) : Nat → Int := fun i => (pp q i : Int)
theorem ppf_succ {q : Int} (h : isSz q = true) (i : Nat) : ppf q i * pr q = ppf q (i + 1) := by
  have hp := pr_bd q h
  show ((pr q).toNat ^ i : Nat) * pr q = (((pr q).toNat ^ (i + 1) : Nat) : Int)
  rw [Nat.pow_succ, Int.natCast_mul, Int.toNat_of_nonneg (by omega)]
theorem ppf_bd {q : Int} (h : isSz q = true) (i : Nat) (hi : i ≤ plN q) : 1 ≤ ppf q i ∧ ppf q i ≤ 16 := by
  have hq := isSz_le q h
  have hc := of_chk1 (f := fun q _ => (List.range (plN q + 1)).all fun i => decide (1 ≤ ppf q i ∧ ppf q i ≤ 16)) (by decide +kernel) q 0 h (by omega) (by omega)
  exact of_decide_eq_true (List.all_eq_true.1 hc i (List.mem_range.2 (by omega)))
theorem ppf_has (q : Int) (j : Nat) : (fl (ppf q) (plN q)).contains (j : Int) = isPw q j := by
  apply bool_ext
  unfold isPw fl
  rw [List.contains_iff_mem, List.mem_map, List.any_eq_true]
  constructor
  · rintro ⟨i, hi, e⟩
    have e' : ((pp q i : Nat) : Int) = (j : Int) := e
    exact ⟨i, hi, beq_iff_eq.2 (by omega)⟩
  · rintro ⟨i, hi, e⟩
    have e' := eq_of_beq e
    exact ⟨i, hi, by show ((pp q i : Nat) : Int) = (j : Int); omega⟩
/-- A list that is an additive polynomial. -/
def addL (q : Int) (l : List Int) : Bool := (isSz q && good q l) && adC q (fun i => l.getD i 0) 0 l.length
theorem part0_zM (m : Nat) : fl (part0 (fun _ => 0) 0) m = fl (fun _ => 0) m := fl_congr fun i _ => by simp [part0]
/-- The lists, one behind the other. -/
def cat (F : Nat → List Int) : Nat → List Int
  | 0 => []
  | k + 1 => cat F k ++ F k
theorem cat_len (F : Nat → List Int) (d : Nat) : ∀ k, (∀ i, i < k → (F i).length = d) → (cat F k).length = k * d := by
  intro k
  induction k with
  | zero => intro _; simp [cat]
  | succ k ih =>
    intro h
    show (cat F k ++ F k).length = _
    rw [List.length_append, ih fun i hi => h i (by omega), h k (by omega), Nat.succ_mul]
theorem cf_sum2 {q a x : Int} (h : isSz q = true) (ha : El q a) (hx : El q x) : lsum q (fun j => mulF q (cf q a j) (pw q x j)) q.toNat = if x = a then 1 else 0 :=
  of_decide_eq_true (of_chk2 (f := fun q a x => decide (lsum q (fun j => mulF q (cf q a j) (pw q x j)) q.toNat = if x = a then 1 else 0)) (by decide +kernel) q a x h ha.1 ha.2 hx.1 hx.2)
theorem lsum_congr' {q : Int} {u v : Nat → Int} {n : Nat} (h : ∀ i, i < n → u i = v i) : lsum q u n = lsum q v n := by
  induction n with
  | zero => rfl
  | succ n ih => show addF q (lsum q u n) (u n) = addF q (lsum q v n) (v n); rw [ih fun i hi => h i (by omega), h n (by omega)]
/-- The polynomial of a table has the table's values. -/
theorem ipl_tab {m : Nat} {t : Nat → Int} (h : isSz (m : Int) = true) (ht : ∀ i, El m (t i)) (x : Nat) (hx : x < m) : val m (ipl m t m) m (x : Int) = t x := by
  have hX := El.nat hx
  have e1 : val m (ipl m t m) m (x : Int) = lsum m (fun j => lsum m (fun a => mulF m (t a) (mulF m (cf m (a : Int) j) (pw m (x : Int) j))) m) m := by
    refine lsum_congr' fun j hj => ?_
    show mulF m (lsum m (fun a => mulF m (t a) (cf m (a : Int) j)) m) (pw m (x : Int) j) = _
    rw [← lsum_mulr h (El.pw h hX j) fun a ha => (ht a).mul h (cf_el h (El.nat ha) j)]
    refine lsum_congr' fun a ha => ?_
    exact mul_assoc' h (ht a) (cf_el h (El.nat ha) j) (El.pw h hX j)
  rw [e1, lsum_swap h fun j a _ ha => (ht a).mul h ((cf_el h (El.nat ha) j).mul h (El.pw h hX j))]
  have e2 : ∀ a, a < m → lsum m (fun j => mulF m (t a) (mulF m (cf m (a : Int) j) (pw m (x : Int) j))) m = if x = a then t a else 0 := fun a ha => by
    rw [lsum_mul h (ht a) fun j _ => (cf_el h (El.nat ha) j).mul h (El.pw h hX j)]
    have := cf_sum2 h (El.nat ha) hX
    rw [Int.toNat_natCast] at this
    rw [this]
    by_cases e : x = a
    · subst e
      rw [if_pos rfl, if_pos rfl, (mul_one' h (ht x)).2]
    · rw [if_neg (by omega), if_neg e, (mul_zero' h (ht a)).2]
  rw [lsum_congr' e2, lsum_pick h (j := x) (by rw [if_pos rfl]; exact ht x) hx fun a _ hne => if_neg fun e => hne e.symm, if_pos rfl]
theorem tb_with {m : Nat} {t : Nat → Int} (h : isSz (m : Int) = true) (ht : ∀ i, El (m : Int) (t i)) : Tb m (redR m (tms m t) m) (redn m (tms m t) m) t :=
  (tb_red h (tms_el h ht) m).like fun a ha => by
    rw [← ipl_tab h ht a ha]
    exact lsum_congr' fun j _ => by rw [tms_same h ht]
theorem ftl_ptl {m : Nat} {t : Nat → Int} (h : isSz (m : Int) = true) (ht : ∀ i, i < m → El (m : Int) (t i)) : ftl m t = ptl m t := by
  have hc := clm_el h ht
  rw [← ((tb_with h hc).like fun a ha => show clm m t a = t a by simp [clm, ha]).same h, from_same' h hc]
  rfl
/-- impl.field.polyWithTable, told by the table. -/
theorem polyWithTableT (m : Nat) (v : Value) (t : Nat → Int) (w : World) (h : isSz (m : Int) = true) (hv : Se w v (m : Int) t m) (ht : ∀ i, i < m → El (m : Int) (t i)) :
    Calls Tryz.prog 72 #[fdE (m : Int), v] w fun e w' => ∃ v', e = .returned (polyE (m : Int) v') ∧ IsP w' v' m t ∧ Below w.heap.size w w' := by
  have hel := clm_el h ht
  refine (polyWithTableE m v (clm m t) w h (hv.like fun i hi => by simp [clm, hi]) hel).mono ?_
  rintro e w' ⟨g, cap, rfl, hg, he, hb⟩
  exact ⟨_, rfl, ⟨g, _, cap, _, rfl, hg, he, (tb_with h hel).like fun a ha => by simp [clm, ha]⟩, hb⟩
theorem IsP.tab {w : World} {v : Value} {m : Nat} {t : Nat → Int} (h : isSz (m : Int) = true) (hp : IsP w v m t) : ∃ g k cap f, v = .slice (some ⟨g, 0, none⟩) k cap ∧ g < w.heap.size ∧ Els w g (m : Int) f k ∧ (∀ i, El (m : Int) (f i)) ∧ k ≤ m ∧ ∀ a, a < m → tabF (m : Int) f k a = t a := by
  obtain ⟨g, k, cap, f, rfl, hg, he, ht⟩ := hp
  refine ⟨g, k, cap, f, rfl, hg, he, ht.el, ht.le, fun a ha => ?_⟩
  show hor m (a : Int) f k k = t a
  rw [hor_val h (El.nat ha) ht.el k, ht.short h a ha]
theorem IsP.over3 {w w' : World} {P : Nat} {v : Value} {m : Nat} {t : Nat → Int} (h : IsP w v m t) (hP : w.heap[P]? = some pzblk) (hw : ∀ k, k ≠ P → w'.heap[k]? = w.heap[k]?) (hs : w'.heap.size = w.heap.size) : IsP w' v m t := by
  obtain ⟨g, k, cap, f, rfl, hg, he, ht⟩ := h
  refine ⟨g, k, cap, f, rfl, by omega, ?_, ht⟩
  by_cases h0 : k = 0
  · subst h0
    exact fun j hj => by omega
  · refine he.same (hw g fun e => ?_)
    subst e
    have h1 := (he 0 (by omega)).2.2.2.1
    rw [(cells4 hP).2.2.2.1] at h1
    simp at h1
theorem Els.like' {w : World} {g n : Nat} {q : Int} {f f' : Nat → Int} (he : Els w g q f n) (h : ∀ i, i < n → f i = f' i) : Els w g q f' n := fun i hi => by
  rw [← h i hi]; exact he i hi
set_option maxHeartbeats 1000000 in
/-- impl.field.elements. -/
theorem elements_full (q : Int) (w : World) (h : isSz q = true) :
    Calls Tryz.prog 155 #[.agg #[.int .i64 q, .int .i64 (pr q), .int .i64 (pl q)]] w fun e w' => ∃ g, e = .returned (.slice (some ⟨g, 0, none⟩) q.toNat q.toNat) ∧ w.heap.size ≤ g ∧ Blk w' g q.toNat ∧ Els w' g q (fun j => (j : Int)) q.toNat ∧ Below w.heap.size w w' := by
  obtain ⟨i0, hi, iz0, iz1, iz2⟩ := info_parts Tryz.infoE
  have hq := isSz_le q h
  have HE := Lib.hid (fun (n : Nat) w (h2 : (n : Int) < q) => elementE q (n : Int) w h (by omega) h2)
  obtain ⟨m, hm⟩ := Int.eq_ofNat_of_zero_le (show 0 ≤ q by omega)
  subst hm
  rw [Int.toNat_natCast]
  clear h
  go_enter Tryz.func155, Tryz.ntmps155
  go_wp2_with (at_make; go_must (refine wpList_make_full _ rfl _ _ 65 rfl w.heap.size 70 i0 (.agg #[.int .i64 0, .int .i64 0, .int .i64 0, .int .i64 0, .int .i64 0, .int .i64 0, .int .i64 0]) 7 Tryz.underlying65 hi iz0 iz1 .i64 .i64 _ _ m rfl rfl rfl rfl ?c3 ?c4 ?c5 ?_))
  case c3 => rw [iz2]; omega
  case c4 => unfold maxLen; omega
  case c5 => simp
  intro w1 hown hgrow
  have hblk : Blk w1 (w.heap.size + 1) m := by
    rcases hown.2 with ⟨hx, _⟩ | ⟨g, cap, cur, hx, _, hh, _, _, hsz, _⟩
    · simp at hx
    · simp at hx
      obtain ⟨rfl, rfl⟩ := hx
      exact ⟨cur, hh, hsz⟩
  have hf : w1.heap[w.heap.size]? = some (.cells #[.int .i64 (m : Int), .int .i64 (pr (m : Int)), .int .i64 (pl (m : Int))] 61) := by
    rw [hgrow.block _ (by simp) (by simp), heap_alloc_new]
  have hb : Below w.heap.size w w1 := ((Below.refl _ _).alloc (Nat.le_refl _) _).grown hgrow (by simp) (fun k hk => by cases hk)
  have HB1 := Lib.hid hblk
  have HF1 := Lib.hid hf
  have HW1 := Lib.hid hb
  clear hown hgrow hblk hf hb
  go_wp2_with fail
  go_loopw [10] (fun vi wr => ∃ i : Nat, i ≤ m ∧ vi = .int .i64 i ∧ wr.heap[w.heap.size]? = some (.cells #[.int .i64 (m : Int), .int .i64 (pr (m : Int)), .int .i64 (pl (m : Int))] 61) ∧ Blk wr (w.heap.size + 1) m ∧ Els wr (w.heap.size + 1) (m : Int) (fun j => (j : Int)) i ∧ Below w.heap.size w wr) (fun vi _ => m - (intOf vi).toNat)
  case atStart => exact ⟨0, Nat.zero_le _, rfl, HF1.out, HB1.out, fun j hj => by omega, HW1.out⟩
  case round =>
    obtain ⟨i, hi, rfl, hf, hk, he, hb⟩ := hrel
    have HF := Lib.hid hf; clear hf
    have HK := Lib.hid hk; clear hk
    have HEl := Lib.hid he; clear he
    have HB := Lib.hid hb; clear hb
    by_cases hlt : i < m
    · have f0 : wr.cell? ⟨w.heap.size, 0, none⟩ = some (.int .i64 (m : Int)) := by rw [cell_of_row wr _ _ _ _ (0, 0) HF.out]; rfl
      have f1 : wr.cell? ⟨w.heap.size, 1, none⟩ = some (.int .i64 (pr (m : Int))) := by rw [cell_of_row wr _ _ _ _ (0, 0) HF.out]; rfl
      have f2 : wr.cell? ⟨w.heap.size, 2, none⟩ = some (.int .i64 (pl (m : Int))) := by rw [cell_of_row wr _ _ _ _ (0, 0) HF.out]; rfl
      go_wp2_with fail
      refine (HE.out i _ (by omega)).mono ?_
      rintro e w2 ⟨rfl, hb2⟩
      have hlt1 := HK.out.lt
      have hk2 : Blk w2 (w.heap.size + 1) m := by obtain ⟨cur, hc, hs⟩ := HK.out; exact ⟨cur, (hb2.block _ hlt1).trans hc, hs⟩
      have he2 : Els w2 (w.heap.size + 1) (m : Int) (fun j => (j : Int)) i := fun j hj => by
        have := HEl.out j hj
        obtain ⟨hc, _⟩ := bcell hb2
        simp only [hc _ _ hlt1]
        exact this
      have hf2 := (hb2.block w.heap.size (by omega)).trans HF.out
      have HB2 := Lib.hid (HB.out.trans (hb2.mono (by omega)))
      clear hb2
      obtain ⟨x0, c0⟩ := hk2.at (i * 7) (by omega)
      obtain ⟨x1, c1⟩ := hk2.at (i * 7 + 1) (by omega)
      obtain ⟨x2, c2⟩ := hk2.at (i * 7 + 2) (by omega)
      obtain ⟨x3, c3⟩ := hk2.at (i * 7 + 3) (by omega)
      obtain ⟨x4, c4⟩ := hk2.at (i * 7 + 4) (by omega)
      obtain ⟨x5, c5⟩ := hk2.at (i * 7 + 5) (by omega)
      obtain ⟨x6, c6⟩ := hk2.at (i * 7 + 6) (by omega)
      have fr := hk2.free
      have HST := Lib.hid (Els.step (f := fun j => (j : Int)) hk2 hlt he2)
      have HF2 := Lib.hid hf2
      clear hk2 he2 hf2
      go_wp2
      go_roundw
      case rel =>
        refine ⟨i + 1, by omega, by go_num, ?_, HST.out.2, HST.out.1, put7i_below HB2.out _ (by omega) _ _ _⟩
        exact (put7i_other _ _ _ _ _ _ (by omega)).trans HF2.out
      case measure => simp [intOf]; omega
    · obtain rfl : m = i := by omega
      go_wp2
      go_ret
      exact ⟨_, rfl, by omega, HK.out, HEl.out, HB.out⟩
theorem fl_cat (f : Nat → Int) (d : Nat) : ∀ k, cat (fun i => fl (fun j => f (i * d + j)) d) k = fl f (k * d) := by
  intro k
  induction k with
  | zero => rw [Nat.zero_mul]; rfl
  | succ k ih =>
    show cat (fun i => fl (fun j => f (i * d + j)) d) k ++ fl (fun j => f (k * d + j)) d = _
    rw [ih, Nat.succ_mul]
    unfold fl
    rw [List.range_add, List.map_append, List.map_map]
    rfl
/-- All counts of all differences are those of each, one behind the other. -/
theorem cat_cfl (m : Nat) (t : Nat → Int) : cat (fun i => fl (oc (dft m t (i + 1)) m) m) (m - 1) = fl (cfl m t) ((m - 1) * m) := by
  rw [← fl_cat]
  congr 1
  funext i
  exact fl_congr fun j hj => (cfl_at t i j hj).symm
/-- The table of a list. -/
abbrev tbl (m : Nat) (l : List Int) : Nat → Int := tabF (m : Int) (fun i => l.getD i 0) l.length
theorem tb_goodE {m : Nat} {l : List Int} (h : isSz (m : Int) = true) (hg : good (m : Int) l = true) : Tb m (fun i => l.getD i 0) l.length (tbl m l) := by
  have hf := all_el h (good_parts hg).2
  refine Tb.like (t := fun a => val m (fun i => l.getD i 0) l.length (a : Int)) ?_ fun a ha => (hor_val h (El.nat ha) hf l.length).symm
  have hp := good_parts hg
  have hel := all_el h hp.2
  have hz : ∀ i, l.length ≤ i → (fun i => l.getD i 0) i = 0 := fun i hi => by simp [List.getD, hi]
  refine ⟨hel, by have := hp.1; omega, hz, ?_, fun a ha => val_more h hel (El.nat ha) (by have := hp.1; omega) hz⟩
  cases hn : l.length with
  | zero => rfl
  | succ k =>
    have h0 : 0 < l.length := by omega
    have hl := good_last hp.1 hp.2 h0
    rw [hg, hn, Nat.add_sub_cancel] at hl
    have := of_decide_eq_true hl.symm
    rw [sn, if_neg]
    show l.getD k 0 ≠ 0
    omega
theorem tbl_el {m : Nat} {l : List Int} (h : isSz (m : Int) = true) (hg : good (m : Int) l = true) (i : Nat) (hi : i < m) : El (m : Int) (tbl m l i) := tab_el (k := l.length) h (all_el h (good_parts hg).2) i hi
theorem tableT (m : Nat) (v : Value) (t : Nat → Int) (w : World) (h : isSz (m : Int) = true) (hv : IsP w v m t) :
    Calls Tryz.prog 208 #[polyE (m : Int) v] w fun e w' => ∃ g', e = .returned (.slice (some ⟨g', 0, none⟩) m m) ∧ w.heap.size ≤ g' ∧ Blk w' g' m ∧ Els w' g' (m : Int) t m ∧ Below w.heap.size w w' := by
  have hq := isSz_two h
  obtain ⟨g, k, cap, f, rfl, hg, he, hf, hk, htab⟩ := hv.tab h
  exact (tableM m g k cap f w h hg he (fun i _ => hf i) (by omega)).mono fun e w'' ⟨g', h1, h2, h3, h4, h5⟩ => ⟨g', h1, h2, h3, h4.like' htab, h5⟩
/-- An element other than 0. -/
def pos (q a : Int) : Bool := inE q a && decide (0 < a)
theorem pos_inN (q a : Int) : pos q a = inN q a := by
  unfold pos inN
  cases h : inE q a with
  | false => rfl
  | true =>
    have := (inE_yes h).2.1
    by_cases h0 : a = 0
    · subst h0; rfl
    · rw [decide_eq_true (show 0 < a by omega), decide_eq_false h0]; rfl
/-- A polynomial that permutes. -/
def prm (q : Int) (l : List Int) : Bool := (isSz q && good q l) && dis (tabF q (fun i => l.getD i 0) l.length) q.toNat
theorem prm_nat {m : Nat} {l : List Int} (h : prm (m : Int) l = true) : isSz (m : Int) = true ∧ good (m : Int) l = true ∧ dis (tabF (m : Int) (fun i => l.getD i 0) l.length) m = true := by
  simpa [prm, Bool.and_eq_true, and_assoc] using h
theorem prm_size {q : Int} {l : List Int} (h : prm q l = true) : ∃ m : Nat, q = (m : Int) := by
  have h1 : isSz q = true := by
    simp only [prm, Bool.and_eq_true] at h
    exact h.1.1
  have := isSz_le q h1
  exact Int.eq_ofNat_of_zero_le (by omega)
/-- A table and x together. -/
def cmt (m : Nat) (t : Nat → Int) : Nat → Int := fun a => addF m (t a) (a : Int)
theorem cmt_el {m : Nat} {t : Nat → Int} (h : isSz (m : Int) = true) (ht : ∀ i, i < m → El (m : Int) (t i)) (i : Nat) (hi : i < m) : El (m : Int) (cmt m t i) := El.add h (ht i hi) (El.nat hi)
/-- A table that is complete. -/
def cpt (m : Nat) (t : Nat → Int) : Bool := dis t m && dis (cmt m t) m
/-- A polynomial that is complete. -/
def cpl (q : Int) (l : List Int) : Bool := (isSz q && good q l) && cpt q.toNat (tbl q.toNat l)
theorem cpl_nat {q : Int} {l : List Int} (h : cpl q l = true) : ∃ m : Nat, q = (m : Int) ∧ isSz (m : Int) = true ∧ good (m : Int) l = true ∧ cpt m (tbl m l) = true := by
  simp only [cpl, Bool.and_eq_true] at h
  obtain ⟨⟨hs, hg⟩, hc⟩ := h
  have hq := isSz_le q hs
  obtain ⟨m, rfl⟩ := Int.eq_ofNat_of_zero_le (show 0 ≤ q by omega)
  rw [Int.toNat_natCast] at hc
  exact ⟨m, rfl, hs, hg, hc⟩
theorem cpl_of {m : Nat} {l : List Int} (hs : isSz (m : Int) = true) (hg : good (m : Int) l = true) : cpl (m : Int) l = cpt m (tbl m l) := by
  unfold cpl
  rw [hs, hg, Int.toNat_natCast]
  rfl
theorem dis_cg {t u : Nat → Int} {m : Nat} (h : ∀ a, a < m → t a = u a) : dis t m = dis u m := by
  rw [Bool.eq_iff_iff, dis_iff, dis_iff]
  constructor
  · intro g i hi j hj; rw [← h i hi, ← h j (by omega)]; exact g i hi j hj
  · intro g i hi j hj; rw [h i hi, h j (by omega)]; exact g i hi j hj
/-- impl.poly.permutes, told by the table. -/
theorem permutesT (m : Nat) (v : Value) (t : Nat → Int) (w : World) (h : isSz (m : Int) = true) (hv : IsP w v m t) :
    Calls Tryz.prog 177 #[polyE (m : Int) v] w fun e w' => e = .returned (.bool (dis t m)) ∧ Below w.heap.size w w' := by
  have hq := isSz_le (m : Int) h
  obtain ⟨g, k, cap, f, rfl, hg, he, hf, hk, htab⟩ := hv.tab h
  have := permutesE m g k cap f w h hg he hf (by omega)
  rw [← dis_onto (fun i hi => tab_el h hf i hi), dis_cg htab] at this
  exact this
set_option maxRecDepth 100000 in
set_option maxHeartbeats 4000000 in
/-- impl.poly.plusX. -/
theorem plusXT (m : Nat) (v : Value) (t : Nat → Int) (w : World) (h : isSz (m : Int) = true) (hv : IsP w v m t) :
    Calls Tryz.prog 200 #[polyE (m : Int) v] w fun e w' => ∃ v', e = .returned (polyE (m : Int) v') ∧ IsP w' v' m (cmt m t) ∧ Below w.heap.size w w' := by
  have hq := isSz_le (m : Int) h
  have HX := Lib.hid (fun w => powerOfXE m 1 w h (by omega))
  have HPL : Hid (∀ v2 w', Below w.heap.size w w' → IsP w' v2 m (fun a => pw m (a : Int) 1) → Calls Tryz.prog 180 #[polyE (m : Int) v, polyE (m : Int) v2] w' fun e w'' => ∃ v', e = .returned (polyE (m : Int) v') ∧ IsP w'' v' m (cmt m t) ∧ Below w'.heap.size w' w'') := Lib.hid fun v2 w' hb hp =>
    (plusT m v v2 t _ w' h (hv.below hb (Nat.le_refl _)) hp).mono fun e w'' ⟨v', h1, h2, h3⟩ => ⟨v', h1, h2.like fun a ha => by show addF m (t a) (pw m (a : Int) 1) = _; rw [pw_one h (El.nat ha)]; rfl, h3⟩
  obtain ⟨a0, k0, c0, rfl⟩ := hv.slice
  clear h hv
  generalize cmt m t = u at *
  go_enter Tryz.func200, Tryz.ntmps200
  go_wp2_with fail
  have HT := Lib.hid (two w (pblk (m : Int) (.slice a0 k0 c0)) pzblk).2
  have HKEEP : Hid (∀ w', Below (w.heap.size + 1) (w.alloc (pblk (m : Int) (.slice a0 k0 c0))) w' → w'.cell? ⟨w.heap.size, 0, none⟩ = some (.int .i64 m) ∧ w'.cell? ⟨w.heap.size, 1, none⟩ = some (.int .i64 (pr m)) ∧ w'.cell? ⟨w.heap.size, 2, none⟩ = some (.int .i64 (pl m)) ∧ w'.cell? ⟨w.heap.size, 3, none⟩ = some (.slice a0 k0 c0)) := Lib.hid fun w' hb => by
    obtain ⟨x0, x1, x2, x3, _⟩ := cells4 ((hb.block _ (by omega)).trans (heap_alloc_new w _))
    exact ⟨x0, x1, x2, x3⟩
  go_region_held3 (fun w' => w'.cell? ⟨w.heap.size, 0, none⟩ = some (.int .i64 m) ∧ w'.cell? ⟨w.heap.size, 1, none⟩ = some (.int .i64 (pr m)) ∧ w'.cell? ⟨w.heap.size, 2, none⟩ = some (.int .i64 (pl m)) ∧ w'.cell? ⟨w.heap.size, 3, none⟩ = some (.slice a0 k0 c0))
    (exact HKEEP.out _ (by (try have hb3 := HB3.out); (try have hb4 := HB4.out); (repeat' (first | (with_reducible assumption) | (with_reducible exact Below.refl _ _) | (with_reducible refine below_drewN ?_ _) | (with_reducible refine Below.drew ?_) | (with_reducible refine Below.alloc ?_ ?_ _) | (with_reducible refine Below.setCell ?_ ?_ _) | (with_reducible refine Below.trans ?_ (Below.mono (by assumption) ?_)) | (with_reducible exact Nat.le_refl _) | (with_reducible assumption) | omega | (simp; omega) | (simp; done)))))
    (first
    | (go_at_call 97; refine (HX.out _).mono ?_; rintro e w3 ⟨v3, rfl, hp3, hb3⟩; obtain ⟨a3, k3, c3, rfl⟩ := hp3.slice; have HP3 := Lib.hid hp3; clear hp3; obtain ⟨hc3, hf3⟩ := bcell hb3; (try simp only [World.size_drew] at hc3 hf3); have hz3 := hb3.size; (try simp at hz3); have HB3 := Lib.hid hb3; clear hb3; have l3 : w.heap.size + 1 < w3.heap.size := (by omega))
    | (go_at_call 180; refine (HPL.out _ _ (by have hb3 := HB3.out; (repeat' (first | (with_reducible assumption) | (with_reducible exact Below.refl _ _) | (with_reducible refine below_drewN ?_ _) | (with_reducible refine Below.drew ?_) | (with_reducible refine Below.alloc ?_ ?_ _) | (with_reducible refine Below.setCell ?_ ?_ _) | (with_reducible refine Below.trans ?_ (Below.mono (by assumption) ?_)) | (with_reducible exact Nat.le_refl _) | (with_reducible assumption) | omega | (simp; omega) | (simp; done)))) HP3.out).mono ?_; rintro e w4 ⟨v4, rfl, hp4, hb4⟩; obtain ⟨a4, k4, c4, rfl⟩ := hp4.slice; have HP4 := Lib.hid hp4; clear hp4; obtain ⟨hc4, hf4⟩ := bcell hb4; (try simp only [World.size_drew] at hc4 hf4); have hz4 := hb4.size; (try simp at hz4); have HB4 := Lib.hid hb4; clear hb4; have l4 : w.heap.size + 1 < w4.heap.size := (by omega)))
  all_goals
    go_wp2_with fail
    have hb3 := HB3.out
    have hb4 := HB4.out
    have hr : w4.heap[w.heap.size + 1]? = some pzblk := (Below.block (B := w.heap.size + 2) (w := (w.alloc (pblk (m : Int) (.slice a0 k0 c0))).alloc pzblk) (by (repeat' (first | (with_reducible assumption) | (with_reducible exact Below.refl _ _) | (with_reducible refine below_drewN ?_ _) | (with_reducible refine Below.drew ?_) | (with_reducible refine Below.alloc ?_ ?_ _) | (with_reducible refine Below.setCell ?_ ?_ _) | (with_reducible refine Below.trans ?_ (Below.mono (by assumption) ?_)) | (with_reducible exact Nat.le_refl _) | (with_reducible assumption) | omega | (simp; omega) | (simp; done)))) (w.heap.size + 1) (by omega)).trans HT.out
    obtain ⟨r0, r1, r2, r3, rf, rl0⟩ := cells4 hr
    refine bodyPost_ret (v := polyE (m : Int) (.slice a4 k4 c4)) (by simp [results, Tryz.results200, go_sem, r0, r1, r2, r3]) rfl ⟨_, rfl, ?_, ?_⟩
    · exact HP4.out.over3 hr (fun k hk => by (repeat' (first | (with_reducible rfl) | (with_reducible refine (heap_setCell_other _ _ _ _ ?_).trans ?_) | (with_reducible refine (drew_heap' _ _).trans ?_) | exact hk))) (by simp)
    · (repeat' (first | (with_reducible assumption) | (with_reducible exact Below.refl _ _) | (with_reducible refine below_drewN ?_ _) | (with_reducible refine Below.drew ?_) | (with_reducible refine Below.alloc ?_ ?_ _) | (with_reducible refine Below.setCell ?_ ?_ _) | (with_reducible refine Below.trans ?_ (Below.mono (by assumption) ?_)) | (with_reducible exact Nat.le_refl _) | (with_reducible assumption) | omega | (simp; omega) | (simp; done)))
set_option maxRecDepth 100000 in
set_option maxHeartbeats 4000000 in
/-- impl.poly.isComplete. -/
theorem isCompleteT (m : Nat) (v : Value) (t : Nat → Int) (w : World) (h : isSz (m : Int) = true) (hv : IsP w v m t) :
    Calls Tryz.prog 139 #[polyE (m : Int) v] w fun e w' => e = .returned (.bool (cpt m t)) ∧ Below w.heap.size w w' := by
  have hq := isSz_le (m : Int) h
  have HP := Lib.hid (fun w' (hb : Below w.heap.size w w') => permutesT m v t w' h (hv.below hb (Nat.le_refl _)))
  have HX := Lib.hid (fun w' (hb : Below w.heap.size w w') => plusXT m v t w' h (hv.below hb (Nat.le_refl _)))
  have HP2 := Lib.hid (fun v' w' (hp : IsP w' v' m (cmt m t)) => permutesT m v' (cmt m t) w' h hp)
  have HE : Hid (cpt m t = (dis t m && dis (cmt m t) m)) := Lib.hid rfl
  rw [HE.out]
  obtain ⟨a0, k0, c0, rfl⟩ := hv.slice
  clear h hv HE
  generalize dis (cmt m t) m = d2 at *
  generalize cmt m t = u at *
  generalize dis t m = d1 at *
  have HCC : Hid (∀ w', Below (w.heap.size + 1) (w.alloc (pblk (m : Int) (.slice a0 k0 c0))) w' → w'.cell? ⟨w.heap.size, 0, none⟩ = some (.int .i64 m) ∧ w'.cell? ⟨w.heap.size, 1, none⟩ = some (.int .i64 (pr m)) ∧ w'.cell? ⟨w.heap.size, 2, none⟩ = some (.int .i64 (pl m)) ∧ w'.cell? ⟨w.heap.size, 3, none⟩ = some (.slice a0 k0 c0)) := Lib.hid fun w' hb => by
    obtain ⟨x0, x1, x2, x3, _⟩ := cells4 ((hb.block _ (by omega)).trans (heap_alloc_new w _))
    exact ⟨x0, x1, x2, x3⟩
  cases d1 with
  | false =>
    go_enter Tryz.func139, Tryz.ntmps139
    go_wp2_with fail
    refine (HP.out _ (by (repeat' (first | (with_reducible assumption) | (with_reducible exact Below.refl _ _) | (with_reducible refine below_drewN ?_ _) | (with_reducible refine Below.drew ?_) | (with_reducible refine Below.alloc ?_ ?_ _) | (with_reducible refine Below.setCell ?_ ?_ _) | (with_reducible refine Below.trans ?_ (Below.mono (by assumption) ?_)) | (with_reducible exact Nat.le_refl _) | (with_reducible assumption) | omega | (simp; omega) | (simp; done))))).mono ?_
    rintro e w1 ⟨rfl, hb1⟩
    go_wp2
    go_ret
    exact ⟨rfl, by (repeat' (first | (with_reducible assumption) | (with_reducible exact Below.refl _ _) | (with_reducible refine below_drewN ?_ _) | (with_reducible refine Below.drew ?_) | (with_reducible refine Below.alloc ?_ ?_ _) | (with_reducible refine Below.setCell ?_ ?_ _) | (with_reducible refine Below.trans ?_ (Below.mono (by assumption) ?_)) | (with_reducible exact Nat.le_refl _) | (with_reducible assumption) | omega | (simp; omega) | (simp; done)))⟩
  | true =>
    go_enter Tryz.func139, Tryz.ntmps139
    go_wp2_with fail
    refine (HP.out _ (by (repeat' (first | (with_reducible assumption) | (with_reducible exact Below.refl _ _) | (with_reducible refine below_drewN ?_ _) | (with_reducible refine Below.drew ?_) | (with_reducible refine Below.alloc ?_ ?_ _) | (with_reducible refine Below.setCell ?_ ?_ _) | (with_reducible refine Below.trans ?_ (Below.mono (by assumption) ?_)) | (with_reducible exact Nat.le_refl _) | (with_reducible assumption) | omega | (simp; omega) | (simp; done))))).mono ?_
    rintro e w1 ⟨rfl, hb1⟩
    have hbw : Below (w.heap.size + 1) (w.alloc (pblk (m : Int) (.slice a0 k0 c0))) w1 := by (repeat' (first | (with_reducible assumption) | (with_reducible exact Below.refl _ _) | (with_reducible refine below_drewN ?_ _) | (with_reducible refine Below.drew ?_) | (with_reducible refine Below.alloc ?_ ?_ _) | (with_reducible refine Below.setCell ?_ ?_ _) | (with_reducible refine Below.trans ?_ (Below.mono (by assumption) ?_)) | (with_reducible exact Nat.le_refl _) | (with_reducible assumption) | omega | (simp; omega) | (simp; done)))
    obtain ⟨x0, x1, x2, x3⟩ := HCC.out _ hbw
    have hzw := hbw.size
    simp at hzw
    have HB1 : Hid (Below w.heap.size w w1) := Lib.hid (by (repeat' (first | (with_reducible assumption) | (with_reducible exact Below.refl _ _) | (with_reducible refine below_drewN ?_ _) | (with_reducible refine Below.drew ?_) | (with_reducible refine Below.alloc ?_ ?_ _) | (with_reducible refine Below.setCell ?_ ?_ _) | (with_reducible refine Below.trans ?_ (Below.mono (by assumption) ?_)) | (with_reducible exact Nat.le_refl _) | (with_reducible assumption) | omega | (simp; omega) | (simp; done))))
    clear hbw hb1
    go_wp2_with fail
    refine (HX.out _ (by have hb1 := HB1.out; (repeat' (first | (with_reducible assumption) | (with_reducible exact Below.refl _ _) | (with_reducible refine below_drewN ?_ _) | (with_reducible refine Below.drew ?_) | (with_reducible refine Below.alloc ?_ ?_ _) | (with_reducible refine Below.setCell ?_ ?_ _) | (with_reducible refine Below.trans ?_ (Below.mono (by assumption) ?_)) | (with_reducible exact Nat.le_refl _) | (with_reducible assumption) | omega | (simp; omega) | (simp; done))))).mono ?_
    rintro e w2 ⟨v2, rfl, hp2, hb2⟩
    have HP2' := Lib.hid hp2; clear hp2
    have HB2 : Hid (Below w.heap.size w w2) := Lib.hid (by have hb1 := HB1.out; (repeat' (first | (with_reducible assumption) | (with_reducible exact Below.refl _ _) | (with_reducible refine below_drewN ?_ _) | (with_reducible refine Below.drew ?_) | (with_reducible refine Below.alloc ?_ ?_ _) | (with_reducible refine Below.setCell ?_ ?_ _) | (with_reducible refine Below.trans ?_ (Below.mono (by assumption) ?_)) | (with_reducible exact Nat.le_refl _) | (with_reducible assumption) | omega | (simp; omega) | (simp; done))))
    clear hb2
    go_wp2_with fail
    refine (HP2.out _ _ HP2'.out).mono ?_
    rintro e w3 ⟨rfl, hb3⟩
    have HB3 : Hid (Below w.heap.size w w3) := Lib.hid (by have hb2 := HB2.out; have hz2 := hb2.size; (repeat' (first | (with_reducible assumption) | (with_reducible exact Below.refl _ _) | (with_reducible refine below_drewN ?_ _) | (with_reducible refine Below.drew ?_) | (with_reducible refine Below.alloc ?_ ?_ _) | (with_reducible refine Below.setCell ?_ ?_ _) | (with_reducible refine Below.trans ?_ (Below.mono (by assumption) ?_)) | (with_reducible exact Nat.le_refl _) | (with_reducible assumption) | omega | (simp; omega) | (simp; done))))
    go_wp2
    go_ret
    exact ⟨rfl, HB3.out⟩
theorem impl_IsComplete_no (q : Int) (v : Value) (l : List Int) (w : World) (hv : Sl w v l) (hl : l.length ≤ 1048576) (hg : (isSz q && good q l) = false) :
    Calls Tryz.prog 57 #[.int .i64 q, v] w fun e w' => e = .returned (.tuple #[.bool false, .bool false]) ∧ Below w.heap.size w w' := by
  have HP := Lib.hid (validPoly_no q v l w hv hl hg)
  clear hg hv hl
  go_enter Tryz.func57, Tryz.ntmps57
  go_wp2_with fail
  refine HP.out.mono ?_
  rintro e w1 ⟨rfl, hb1⟩
  have hz_hb1 := hb1.size; (try simp at hz_hb1)
  have HB1 := Lib.hid hb1; clear hb1
  go_wp2_with fail
  go_ret2
  have hb1 := HB1.out
  exact ⟨rfl, by (repeat' (first | (with_reducible assumption) | (with_reducible exact Below.refl _ _) | (with_reducible refine below_drewN ?_ _) | (with_reducible refine Below.drew ?_) | (with_reducible refine Below.alloc ?_ ?_ _) | (with_reducible refine Below.setCell ?_ ?_ _) | (with_reducible refine Below.trans ?_ (Below.mono (by assumption) ?_)) | (with_reducible exact Nat.le_refl _) | (with_reducible assumption) | omega | (simp; omega) | (simp; done)))⟩
set_option maxRecDepth 100000 in
set_option maxHeartbeats 4000000 in
theorem impl_IsComplete_yes (m : Nat) (v : Value) (l : List Int) (w : World) (h : isSz (m : Int) = true) (hv : Sl w v l) (hg : good (m : Int) l = true) :
    Calls Tryz.prog 57 #[.int .i64 m, v] w fun e w' => e = .returned (.tuple #[.bool (cpt m (tbl m l)), .bool true]) ∧ Below w.heap.size w w' := by
  have hq := isSz_le (m : Int) h
  have HP : Hid (Calls Tryz.prog 80 #[.int .i64 m, v] w fun e w' => ∃ v', e = .returned (.tuple #[polyE (m : Int) v', .bool true]) ∧ IsP w' v' m (tbl m l) ∧ Below w.heap.size w w') := Lib.hid ((validPoly_yes (m : Int) v l w h hv hg).mono fun e w' ⟨g, h1, h2, h3, h4, h5⟩ => ⟨_, h1, ⟨g, _, _, _, rfl, h3.lt, h4, tb_goodE h hg⟩, h5⟩)
  have HI := Lib.hid (fun v' w' (hp : IsP w' v' m (tbl m l)) => isCompleteT m v' (tbl m l) w' h hp)
  clear h hv hg
  generalize cpt m (tbl m l) = r at *
  generalize tbl m l = t at *
  go_enter Tryz.func57, Tryz.ntmps57
  go_wp2_with fail
  refine HP.out.mono ?_
  rintro e w1 ⟨v1, rfl, hp1, hb1⟩
  obtain ⟨a1, k1, c1, rfl⟩ := hp1.slice
  have HP1 := Lib.hid hp1; clear hp1
  have hz_hb1 := hb1.size; (try simp at hz_hb1)
  have HB1 := Lib.hid hb1; clear hb1
  go_wp2_with fail
  refine (HI.out _ _ (HP1.out.below (B := w1.heap.size) (by (repeat' (first | (with_reducible assumption) | (with_reducible exact Below.refl _ _) | (with_reducible refine below_drewN ?_ _) | (with_reducible refine Below.drew ?_) | (with_reducible refine Below.alloc ?_ ?_ _) | (with_reducible refine Below.setCell ?_ ?_ _) | (with_reducible refine Below.trans ?_ (Below.mono (by assumption) ?_)) | (with_reducible exact Nat.le_refl _) | (with_reducible assumption) | omega | (simp; omega) | (simp; done)))) (Nat.le_refl _))).mono ?_
  rintro e w2 ⟨rfl, hb2⟩
  have HB2 : Hid (Below w.heap.size w w2) := Lib.hid (by have hb1 := HB1.out; (repeat' (first | (with_reducible assumption) | (with_reducible exact Below.refl _ _) | (with_reducible refine below_drewN ?_ _) | (with_reducible refine Below.drew ?_) | (with_reducible refine Below.alloc ?_ ?_ _) | (with_reducible refine Below.setCell ?_ ?_ _) | (with_reducible refine Below.trans ?_ (Below.mono (by assumption) ?_)) | (with_reducible exact Nat.le_refl _) | (with_reducible assumption) | omega | (simp; omega) | (simp; done)))); clear hb2
  go_wp2
  go_ret2
  exact ⟨rfl, HB2.out⟩
end Go.Proofs.YtapglncgicfjnabGreat
