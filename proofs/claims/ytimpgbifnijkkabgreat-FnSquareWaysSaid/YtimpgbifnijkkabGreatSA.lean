/- Differences of tables, their counts and spreads: plain arithmetic. -/
import Derived.Test.YtimpgbifnijkkabGreatOA
import Derived.Test.YtimpgbifnijkkabGreatLI
namespace Go.Proofs.YtimpgbifnijkkabGreat
theorem bx_ext {a b : Bool} (h : a = true ↔ b = true) : a = b := by
  cases a <;> cases b <;> simp_all
/-- The table of the difference by a. -/
def dft (m : Nat) (t : Nat → Int) (a : Nat) : Nat → Int := fun x => subF m (t (addF m x a).toNat) (t x)
theorem addN_lt {m x a : Nat} (h : isSz (m : Int) = true) (hx : x < m) (ha : a < m) : (addF m x a).toNat < m := by
  have := El.add h (El.nat hx) (El.nat ha)
  have h1 := this.1
  have h2 := this.2
  omega
theorem El.lss {q a b : Int} (h : isSz q = true) (ha : El q a) (hb : El q b) : El q (subF q a b) := subF_bd q a b h ha.1 ha.2 hb.1 hb.2
theorem dft_el {m : Nat} {t : Nat → Int} (h : isSz (m : Int) = true) (ht : ∀ i, i < m → El (m : Int) (t i)) (a : Nat) (ha : a < m) (x : Nat) (hx : x < m) : El (m : Int) (dft m t a x) :=
  El.lss h (ht _ (addN_lt h hx ha)) (ht x hx)
/-- All counts of all differences, one after the other. -/
def cfl (m : Nat) (t : Nat → Int) : Nat → Int := fun i => oc (dft m t (i / m + 1)) m (i % m)
theorem cfl_at {m : Nat} (t : Nat → Int) (a b : Nat) (hb : b < m) : cfl m t (a * m + b) = oc (dft m t (a + 1)) m b := by
  unfold cfl
  have hm : 0 < m := by omega
  rw [show a * m + b = b + m * a by rw [Nat.mul_comm a m]; omega, Nat.add_mul_div_left _ _ hm, Nat.add_mul_mod_self_left, Nat.div_eq_of_lt hb, Nat.mod_eq_of_lt hb, Nat.zero_add]
theorem cfl_bd (m : Nat) (t : Nat → Int) (i : Nat) : 0 ≤ cfl m t i ∧ cfl m t i ≤ m := oc_bd _ m _
/-- The spread of the counts. -/
def spr (m : Nat) (t : Nat → Int) : Nat → Int := oc (cfl m t) ((m - 1) * m)
theorem oc_pos {t : Nat → Int} {y : Nat} : ∀ n, (0 < oc t n y ↔ ∃ i, i < n ∧ (t i).toNat = y) := by
  intro n
  induction n with
  | zero =>
    constructor
    · intro h; exact absurd h (by show ¬ (0 : Int) < 0; omega)
    · rintro ⟨i, hi, _⟩; omega
  | succ n ih =>
    show 0 < upd (oc t n) (t n).toNat (oc t n (t n).toNat + 1) y ↔ _
    unfold upd
    split
    · rename_i e
      have hb := (oc_bd t n (t n).toNat).1
      constructor
      · intro _; exact ⟨n, by omega, e.symm⟩
      · intro _; omega
    · rename_i e
      rw [ih]
      constructor
      · rintro ⟨i, hi, h⟩; exact ⟨i, by omega, h⟩
      · rintro ⟨i, hi, h⟩
        by_cases e' : i = n
        · subst e'; exact absurd h.symm e
        · exact ⟨i, by omega, h⟩
theorem spr_pos {m : Nat} {t : Nat → Int} {k : Nat} : 0 < spr m t k ↔ ∃ a b, a + 1 < m ∧ b < m ∧ (oc (dft m t (a + 1)) m b).toNat = k := by
  unfold spr
  rw [oc_pos]
  constructor
  · rintro ⟨i, hi, e⟩
    have hm : 0 < m := by
      rcases Nat.eq_zero_or_pos m with z | z
      · subst z; simp at hi
      · exact z
    refine ⟨i / m, i % m, ?_, Nat.mod_lt _ hm, e⟩
    have := (Nat.div_lt_iff_lt_mul hm).2 hi
    omega
  · rintro ⟨a, b, ha, hb, e⟩
    refine ⟨a * m + b, ?_, by rw [cfl_at t a b hb]; exact e⟩
    have h1 : (a + 1) * m ≤ (m - 1) * m := Nat.mul_le_mul_right m (by omega)
    rw [Nat.succ_mul] at h1
    omega
/-- The greatest k up to n at which something is. -/
def gr (c : Nat → Int) : Nat → Nat
  | 0 => 0
  | k + 1 => if c (k + 1) = 0 then gr c k else k + 1
theorem gr_le (c : Nat → Int) : ∀ n, gr c n ≤ n := by
  intro n
  induction n with
  | zero => exact Nat.le_refl _
  | succ n ih => show (if c (n + 1) = 0 then gr c n else n + 1) ≤ n + 1; split <;> omega
theorem gr_no {c : Nat → Int} {n : Nat} (h : c (n + 1) = 0) : gr c (n + 1) = gr c n := if_pos h
theorem gr_yes {c : Nat → Int} {n : Nat} (h : c n ≠ 0) : gr c n = n := by
  cases n with
  | zero => rfl
  | succ n => exact if_neg h
theorem gr_at {c : Nat → Int} : ∀ n, (∃ k, k ≤ n ∧ c k ≠ 0) → c (gr c n) ≠ 0 := by
  intro n
  induction n with
  | zero => rintro ⟨k, hk, h⟩; obtain rfl : k = 0 := by omega
            exact h
  | succ n ih =>
    rintro ⟨k, hk, h⟩
    by_cases e : c (n + 1) = 0
    · rw [gr_no e]
      refine ih ⟨k, ?_, h⟩
      by_cases e' : k = n + 1
      · subst e'; exact absurd e h
      · omega
    · rw [gr_yes e]; exact e
theorem gr_up {c : Nat → Int} : ∀ n k, k ≤ n → gr c n < k → c k = 0 := by
  intro n
  induction n with
  | zero => intro k hk h; omega
  | succ n ih =>
    intro k hk h
    by_cases e : c (n + 1) = 0
    · rw [gr_no e] at h
      by_cases e' : k = n + 1
      · subst e'; exact e
      · exact ih k (by omega) h
    · rw [gr_yes e] at h; omega
/-- All places counted are all. -/
def tsm (c : Nat → Int) : Nat → Int
  | 0 => 0
  | n + 1 => tsm c n + c n
theorem tsm_upd (c : Nat → Int) (y : Nat) : ∀ n, tsm (upd c y (c y + 1)) n = tsm c n + (if y < n then 1 else 0) := by
  intro n
  induction n with
  | zero => rfl
  | succ n ih =>
    show tsm (upd c y (c y + 1)) n + upd c y (c y + 1) n = tsm c n + c n + _
    rw [ih]
    unfold upd
    by_cases e : n = y
    · subst e
      rw [if_neg (Nat.lt_irrefl n), if_pos rfl, if_pos (by omega)]
      omega
    · rw [if_neg e]
      by_cases e2 : y < n
      · rw [if_pos e2, if_pos (by omega)]; omega
      · rw [if_neg e2, if_neg (by omega)]; omega
theorem tsm_oc {m : Nat} {t : Nat → Int} : ∀ n, (∀ i, i < n → El (m : Int) (t i)) → tsm (oc t n) m = n := by
  intro n
  induction n with
  | zero =>
    intro _
    have : ∀ k, tsm (oc t 0) k = 0 := by
      intro k
      induction k with
      | zero => rfl
      | succ k ih => show tsm (oc t 0) k + (0 : Int) = 0; omega
    exact this m
  | succ n ih =>
    intro ht
    have h1 := ih fun i hi => ht i (by omega)
    have h2 := ht n (by omega)
    have h3 := h2.1
    have h4 := h2.2
    show tsm (upd (oc t n) (t n).toNat (oc t n (t n).toNat + 1)) m = _
    rw [tsm_upd, h1, if_pos (by omega)]
    omega
theorem tsm_le {c : Nat → Int} {n k : Nat} (hk : k < n) (h : ∀ i, i < n → c i ≤ 1) : tsm c n ≤ n - 1 + c k := by
  have hb : ∀ j, j ≤ n → tsm c j ≤ j := by
    intro j
    induction j with
    | zero => intro _; exact Int.le_refl 0
    | succ j ih =>
      intro hj
      have := ih (by omega)
      have := h j (by omega)
      show tsm c j + c j ≤ _
      omega
  have : ∀ j, k < j → j ≤ n → tsm c j ≤ j - 1 + c k := by
    intro j
    induction j with
    | zero => intro hj; omega
    | succ j ih =>
      intro hj hjn
      have h1 := h j (by omega)
      by_cases e : k = j
      · subst e
        have := hb k (by omega)
        show tsm c k + c k ≤ _
        omega
      · have := ih (by omega) (by omega)
        show tsm c j + c j ≤ _
        omega
  exact this n hk (Nat.le_refl n)
theorem tsm_zero {c : Nat → Int} : ∀ n, (∀ i, i < n → c i = 0) → tsm c n = 0 := by
  intro n
  induction n with
  | zero => intro _; rfl
  | succ n ih =>
    intro h
    show tsm c n + c n = 0
    rw [ih fun i hi => h i (by omega), h n (by omega)]
    rfl
/-- Only those that are allowed. -/
def ho (c : Nat → Int) (L : List Int) : Nat → Bool
  | 0 => true
  | n + 1 => ho c L n && (decide (c n ≤ 0) || L.contains (n : Int))
theorem ho_iff {c : Nat → Int} {L : List Int} : ∀ n, (ho c L n = true ↔ ∀ k, k < n → 0 < c k → L.contains (k : Int) = true) := by
  intro n
  induction n with
  | zero => exact ⟨fun _ k hk => by omega, fun _ => rfl⟩
  | succ n ih =>
    show (ho c L n && (decide (c n ≤ 0) || L.contains (n : Int))) = true ↔ _
    rw [Bool.and_eq_true, ih, Bool.or_eq_true, decide_eq_true_iff]
    constructor
    · rintro ⟨h1, h2⟩ k hk hp
      by_cases e : k = n
      · subst e
        rcases h2 with h2 | h2
        · omega
        · exact h2
      · exact h1 k (by omega) hp
    · intro hh
      refine ⟨fun k hk => hh k (by omega), ?_⟩
      by_cases e : c n ≤ 0
      · exact .inl e
      · exact .inr (hh n (by omega) (by omega))
theorem isSz_two {m : Nat} (h : isSz (m : Int) = true) : 2 ≤ m ∧ m ≤ 16 := by
  have := isSz_le (m : Int) h
  omega
theorem spr_one {m : Nat} {t : Nat → Int} (h : isSz (m : Int) = true) (ht : ∀ i, i < m → El (m : Int) (t i)) : ∃ k, 1 ≤ k ∧ k ≤ m ∧ spr m t k ≠ 0 := by
  have hq := isSz_two h
  have h1 := tsm_oc m (fun x hx => dft_el h ht 1 (by omega) x hx)
  have hc : ∃ b, b < m ∧ 0 < oc (dft m t 1) m b := by
    refine Classical.byContradiction fun hn => ?_
    have : tsm (oc (dft m t 1) m) m = 0 := tsm_zero m fun i hi => by
      have hb := (oc_bd (dft m t 1) m i).1
      have : ¬ 0 < oc (dft m t 1) m i := fun hp => hn ⟨i, hi, hp⟩
      omega
    omega
  obtain ⟨b, hb, hp⟩ := hc
  have hbd := oc_bd (dft m t 1) m b
  refine ⟨(oc (dft m t 1) m b).toNat, by omega, by omega, ?_⟩
  have h2 := (spr_pos (m := m) (t := t)).2 ⟨0, b, by omega, hb, rfl⟩
  have h3 : 0 < spr m t (oc (dft m t 1) m b).toNat := h2
  omega
theorem spr_some {m : Nat} {t : Nat → Int} (h : isSz (m : Int) = true) (ht : ∀ i, i < m → El (m : Int) (t i)) : spr m t (gr (spr m t) m) ≠ 0 := by
  obtain ⟨k, _, hk, h0⟩ := spr_one h ht
  exact gr_at m ⟨k, hk, h0⟩
theorem spr_nn (m : Nat) (t : Nat → Int) (k : Nat) : 0 ≤ spr m t k := (oc_bd _ _ _).1
theorem has1 (k : Nat) : ([1] : List Int).contains (k : Int) = true ↔ k = 1 := by simp; omega
theorem has02 (k : Nat) : ([0, 2] : List Int).contains (k : Int) = true ↔ k = 0 ∨ k = 2 := by simp; omega
/-- Planar: only the count 1, or the greatest count is 1. -/
theorem planar_ways {m : Nat} {t : Nat → Int} (h : isSz (m : Int) = true) (ht : ∀ i, i < m → El (m : Int) (t i)) : ho (spr m t) [1] (m + 1) = decide (gr (spr m t) m = 1) := by
  apply bx_ext
  rw [ho_iff, decide_eq_true_iff]
  have hg := spr_some h ht
  have hgl := gr_le (spr m t) m
  have hnn := spr_nn m t
  constructor
  · intro hh
    have := hnn (gr (spr m t) m)
    exact (has1 _).1 (hh _ (by omega) (by omega))
  · intro e k hk hp
    rw [has1]
    have hup := gr_up (c := spr m t) m
    rw [e] at hup
    have hk1 : k ≤ 1 := by
      refine Classical.byContradiction fun hn => ?_
      have := hup k (by omega) (by omega)
      omega
    obtain ⟨a, b, ha, hb, eq⟩ := spr_pos.1 hp
    have hall : ∀ i, i < m → oc (dft m t (a + 1)) m i ≤ 1 := fun i hi => by
      have hbd := oc_bd (dft m t (a + 1)) m i
      refine Classical.byContradiction fun hn => ?_
      have h1 := (spr_pos (m := m) (t := t)).2 ⟨a, i, ha, hi, rfl⟩
      have h2 := hup (oc (dft m t (a + 1)) m i).toNat (by omega) (by omega)
      omega
    have h1 := tsm_le hb hall
    rw [tsm_oc m (fun x hx => dft_el h ht (a + 1) (by omega) x hx)] at h1
    have hbd := oc_bd (dft m t (a + 1)) m b
    omega
/-! ### Even fields -/
def evs : List Nat := [2, 4, 8, 16]
def isPermL (l r : List Nat) : Bool := l.isPerm r
theorem ev_facts : (evs.all fun m => (List.range m).all fun a => (a == 0) || (((List.range m).map fun x : Nat => (addF m x a).toNat).isPerm (List.range m) && (List.range m).all fun x : Nat => decide (addF m (addF m x a) a = x) && decide (addF m x a ≠ x))) = true := by decide +kernel
theorem ev_sub : (evs.all fun m => (List.range m).all fun a => (List.range m).all fun b => decide (subF m a b = subF m b a)) = true := by decide +kernel
theorem ev_of {m : Nat} (h : isSz (m : Int) = true) (he : m % 2 = 0) : m ∈ evs := by
  have hq := isSz_two h
  have : ∀ n : Fin 17, isSz ((n.val : Nat) : Int) = true → n.val % 2 = 0 → n.val ∈ evs := by decide +kernel
  exact this ⟨m, by omega⟩ h he
theorem ev_facts' {m a : Nat} (h : isSz (m : Int) = true) (he : m % 2 = 0) (ha : a < m) (h0 : a ≠ 0) :
    ((List.range m).map fun x : Nat => (addF m x a).toNat).Perm (List.range m) ∧ ∀ x, x < m → addF m (addF m x a) a = x ∧ addF m x a ≠ x := by
  have h1 := List.all_eq_true.1 (List.all_eq_true.1 ev_facts m (ev_of h he)) a (List.mem_range.2 ha)
  rw [Bool.or_eq_true, Bool.and_eq_true] at h1
  rcases h1 with h1 | ⟨h1, h2⟩
  · exact absurd (eq_of_beq h1) h0
  · refine ⟨List.isPerm_iff.1 h1, fun x hx => ?_⟩
    have h3 := List.all_eq_true.1 h2 x (List.mem_range.2 hx)
    rw [Bool.and_eq_true, decide_eq_true_iff, decide_eq_true_iff] at h3
    exact h3
theorem ev_sub' {m : Nat} {x y : Int} (h : isSz (m : Int) = true) (he : m % 2 = 0) (hx : El (m : Int) x) (hy : El (m : Int) y) : subF m x y = subF m y x := by
  obtain ⟨a, rfl⟩ := Int.eq_ofNat_of_zero_le hx.1
  obtain ⟨b, rfl⟩ := Int.eq_ofNat_of_zero_le hy.1
  have h1 := hx.2
  have h2 := hy.2
  exact of_decide_eq_true (List.all_eq_true.1 (List.all_eq_true.1 (List.all_eq_true.1 ev_sub m (ev_of h he)) a (List.mem_range.2 (by omega))) b (List.mem_range.2 (by omega)))
theorem oc_count {t : Nat → Int} {y : Nat} : ∀ n, (oc t n y).toNat = (List.range n).countP (fun x => decide ((t x).toNat = y)) ∧ 0 ≤ oc t n y := by
  intro n
  induction n with
  | zero => exact ⟨rfl, Int.le_refl 0⟩
  | succ n ih =>
    rw [List.range_succ, List.countP_append]
    obtain ⟨h1, h2⟩ := ih
    have hb := (oc_bd t n (t n).toNat).1
    constructor
    · show (upd (oc t n) (t n).toNat (oc t n (t n).toNat + 1) y).toNat = _
      unfold upd
      by_cases e : y = (t n).toNat
      · rw [if_pos e, ← e, ← h1]
        simp [e]
        omega
      · rw [if_neg e, h1]
        have : ¬ (t n).toNat = y := fun e' => e e'.symm
        simp [this]
    · show 0 ≤ upd (oc t n) (t n).toNat (oc t n (t n).toNat + 1) y
      unfold upd
      split <;> omega
theorem countP_two {p s : Nat → Bool} (l : List Nat) : l.countP p = l.countP (fun x => p x && s x) + l.countP (fun x => p x && !s x) := by
  induction l with
  | nil => rfl
  | cons x l ih =>
    rw [List.countP_cons, List.countP_cons, List.countP_cons, ih]
    cases hp : p x <;> cases hs : s x <;> simp <;> omega
/-- In even fields each value of a difference has an even number of places. -/
theorem ev_even {m : Nat} {t : Nat → Int} (h : isSz (m : Int) = true) (he : m % 2 = 0) (ht : ∀ i, i < m → El (m : Int) (t i)) (a : Nat) (ha : a + 1 < m) (b : Nat) : (oc (dft m t (a + 1)) m b).toNat % 2 = 0 := by
  obtain ⟨hp, hs⟩ := ev_facts' h he ha (by omega)
  rw [(oc_count m).1, countP_two (s := fun x => decide (x < (addF m x ((a + 1 : Nat) : Int)).toNat))]
  have h1 : (List.range m).countP (fun x => decide ((dft m t (a + 1) x).toNat = b) && decide (x < (addF m x ((a + 1 : Nat) : Int)).toNat)) = (List.range m).countP (fun x => decide ((dft m t (a + 1) x).toNat = b) && !decide (x < (addF m x ((a + 1 : Nat) : Int)).toNat)) := by
    rw [← hp.countP_eq, List.countP_map]
    refine List.countP_congr fun x hx => ?_
    have hxm := List.mem_range.1 hx
    obtain ⟨e1, e2⟩ := hs x hxm
    have hb := El.add h (El.nat hxm) (El.nat ha)
    have hb0 := hb.1
    have hsx : ((addF m x ((a + 1 : Nat) : Int)).toNat : Int) = addF m x ((a + 1 : Nat) : Int) := by omega
    have hss : (addF m ((addF m x ((a + 1 : Nat) : Int)).toNat : Int) ((a + 1 : Nat) : Int)).toNat = x := by
      rw [hsx, e1]; omega
    have hd : dft m t (a + 1) (addF m x ((a + 1 : Nat) : Int)).toNat = dft m t (a + 1) x := by
      show subF m (t (addF m ((addF m x ((a + 1 : Nat) : Int)).toNat : Int) ((a + 1 : Nat) : Int)).toNat) (t (addF m x ((a + 1 : Nat) : Int)).toNat) = subF m (t (addF m x ((a + 1 : Nat) : Int)).toNat) (t x)
      rw [hss]
      exact ev_sub' h he (ht x hxm) (ht _ (addN_lt h hxm ha))
    simp only [Function.comp, hd, hss, Bool.and_eq_true, decide_eq_true_iff, Bool.not_eq_true', decide_eq_false_iff_not]
    constructor
    · rintro ⟨h1, h2⟩; exact ⟨h1, by omega⟩
    · rintro ⟨h1, h2⟩; exact ⟨h1, by omega⟩
  omega
/-- Almost perfect: only the counts 0 and 2, or the greatest count is 2. -/
theorem perfect_ways {m : Nat} {t : Nat → Int} (h : isSz (m : Int) = true) (he : m % 2 = 0) (ht : ∀ i, i < m → El (m : Int) (t i)) : ho (spr m t) [0, 2] (m + 1) = decide (gr (spr m t) m = 2) := by
  apply bx_ext
  rw [ho_iff, decide_eq_true_iff]
  have hgl := gr_le (spr m t) m
  have hnn := spr_nn m t
  constructor
  · intro hh
    obtain ⟨k, hk1, hkm, hk⟩ := spr_one h ht
    have := hnn k
    have hk2 : k = 2 := by
      have := (has02 _).1 (hh k (by omega) (by omega))
      omega
    subst hk2
    have hg := spr_some h ht
    have hg1 := hnn (gr (spr m t) m)
    have hgp : 0 < spr m t (gr (spr m t) m) := by omega
    have hg2 := (has02 _).1 (hh (gr (spr m t) m) (by omega) hgp)
    rcases hg2 with hg2 | hg2
    · have := gr_up (c := spr m t) m 2 hkm (by omega)
      exact absurd this hk
    · exact hg2
  · intro e k hk hp
    rw [has02]
    have hup := gr_up (c := spr m t) m
    rw [e] at hup
    have hk2 : k ≤ 2 := by
      refine Classical.byContradiction fun hn => ?_
      have := hup k (by omega) (by omega)
      omega
    obtain ⟨a, b, ha, hb, eq⟩ := spr_pos.1 hp
    have := ev_even h he ht a ha b
    omega
/-! ### The first repeated value -/
/-- What is asked of x and y behind it. -/
def hit (m : Nat) (t : Nat → Int) (a x y : Nat) : Bool := decide (dft m t a x = dft m t a y) && !(decide (m % 2 = 0) && decide (addF m x a = (y : Int)))
structure Frp (m : Nat) (t : Nat → Int) (r : List Int) (o : Bool) : Prop where
  yes : ∀ a x y, 1 ≤ a → a < m → x < y → y < m → (∀ a', 1 ≤ a' → a' < a → ∀ x' y', x' < y' → y' < m → hit m t a' x' y' = false) → (∀ x', x' < x → ∀ y', x' < y' → y' < m → hit m t a x' y' = false) → (∀ y', x < y' → y' < y → hit m t a x y' = false) → hit m t a x y = true → r = [(a : Int), (x : Int), (y : Int)] ∧ o = true
  no : (∀ a, 1 ≤ a → a < m → ∀ x y, x < y → y < m → hit m t a x y = false) → r = [] ∧ o = false
theorem frp_is (m : Nat) (t : Nat → Int) : ∃ r o, Frp m t r o ∧ r.length ≤ 3 := by
  by_cases h : ∃ a x y, 1 ≤ a ∧ a < m ∧ x < y ∧ y < m ∧ hit m t a x y = true
  · obtain ⟨a0, ha0⟩ := h
    obtain ⟨a, _, ⟨x0, hx0⟩, hl⟩ := least_of (P := fun a => ∃ x y, 1 ≤ a ∧ a < m ∧ x < y ∧ y < m ∧ hit m t a x y = true) a0 ha0
    obtain ⟨x, _, ⟨y0, hy0⟩, hx⟩ := least_of (P := fun x => ∃ y, 1 ≤ a ∧ a < m ∧ x < y ∧ y < m ∧ hit m t a x y = true) x0 hx0
    obtain ⟨y, _, ⟨h1, h2, h3, h4, h5⟩, hy⟩ := least_of (P := fun y => 1 ≤ a ∧ a < m ∧ x < y ∧ y < m ∧ hit m t a x y = true) y0 hy0
    refine ⟨[(a : Int), (x : Int), (y : Int)], true, ⟨?_, ?_⟩, Nat.le_refl _⟩
    · intro a' x' y' c1 c2 c3 c4 c5 c6 c7 c8
      have e : a' = a := by
        rcases Nat.lt_trichotomy a' a with z | z | z
        · exact absurd ⟨x', y', c1, c2, c3, c4, c8⟩ (hl a' z)
        · exact z
        · have := c5 a h1 z x y h3 h4
          rw [h5] at this; cases this
      subst e
      have e : x' = x := by
        rcases Nat.lt_trichotomy x' x with z | z | z
        · exact absurd ⟨y', c1, c2, c3, c4, c8⟩ (hx x' z)
        · exact z
        · have := c6 x z y h3 h4
          rw [h5] at this; cases this
      subst e
      have e : y' = y := by
        rcases Nat.lt_trichotomy y' y with z | z | z
        · exact absurd ⟨c1, c2, c3, c4, c8⟩ (hy y' z)
        · exact z
        · have := c7 y h3 z
          rw [h5] at this; cases this
      subst e
      exact ⟨rfl, rfl⟩
    · intro hn
      have := hn a h1 h2 x y h3 h4
      rw [h5] at this; cases this
  · refine ⟨[], false, ⟨?_, fun _ => ⟨rfl, rfl⟩⟩, by simp⟩
    intro a x y c1 c2 c3 c4 _ _ _ c8
    exact absurd ⟨a, x, y, c1, c2, c3, c4, c8⟩ h
end Go.Proofs.YtimpgbifnijkkabGreat
