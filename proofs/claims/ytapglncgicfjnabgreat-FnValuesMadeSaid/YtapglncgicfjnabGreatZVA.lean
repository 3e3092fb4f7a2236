/- Several texts in one (tools/upbundle.py): OA OM OC OD OE OGA OF OG. -/
import Derived.Test.YtapglncgicfjnabGreatKA
import Derived.Test.YtapglncgicfjnabGreatKH
import Derived.Laws.Rows
import Derived.Laws.CopyOwn
import Derived.Great.BuildSlice
import Derived.Deep.RegionWith
import Derived.Test.YtapglncgicfjnabGreatKP
import Derived.Test.YtapglncgicfjnabGreatLC
import Derived.Deep.MidRow
/-! OA -/
namespace Go.Proofs.YtapglncgicfjnabGreat
/-- How often each element is among the first entries. -/
def oc (t : Nat → Int) : Nat → (Nat → Int)
  | 0 => fun _ => 0
  | n + 1 => upd (oc t n) (t n).toNat (oc t n (t n).toNat + 1)
theorem oc_succ (t : Nat → Int) (n k : Nat) (h : t n = (k : Int)) : oc t (n + 1) = upd (oc t n) k (oc t n k + 1) := by
  show upd (oc t n) (t n).toNat (oc t n (t n).toNat + 1) = _
  rw [h, Int.toNat_natCast]
theorem oc_bd (t : Nat → Int) : ∀ n y, 0 ≤ oc t n y ∧ oc t n y ≤ n := by
  intro n
  induction n with
  | zero => intro y; exact ⟨Int.le_refl 0, Int.le_refl 0⟩
  | succ n ih =>
    intro y
    have h1 := ih y
    have h2 := ih (t n).toNat
    show 0 ≤ upd (oc t n) (t n).toNat (oc t n (t n).toNat + 1) y ∧ upd (oc t n) (t n).toNat (oc t n (t n).toNat + 1) y ≤ _
    unfold upd
    split <;> omega
theorem oc_out {t : Nat → Int} {m : Nat} : ∀ n, (∀ i, i < n → El (m : Int) (t i)) → ∀ y, m ≤ y → oc t n y = 0 := by
  intro n
  induction n with
  | zero => intro _ y _; rfl
  | succ n ih =>
    intro ht y hy
    have h1 := ih (fun i hi => ht i (by omega)) y hy
    have h2 := ht n (by omega)
    have h3 := h2.1
    have h4 := h2.2
    show upd (oc t n) (t n).toNat (oc t n (t n).toNat + 1) y = 0
    unfold upd
    rw [if_neg (by omega)]
    exact h1
/-- An element that has places. -/
def mt (t : Nat → Int) (n y : Nat) : Bool := decide (0 < oc t n y)
/-- Pairs alike. -/
def pa (c : Nat → Int) : Nat → Int
  | 0 => 0
  | k + 1 => pa c k + (c k * (c k - 1)).tdiv 2
theorem half_bd (x : Int) (h0 : 0 ≤ x) (h1 : x ≤ 16) : 0 ≤ (x * (x - 1)).tdiv 2 ∧ (x * (x - 1)).tdiv 2 ≤ 120 ∧ 0 ≤ x * (x - 1) ∧ x * (x - 1) ≤ 240 := by
  obtain ⟨n, rfl⟩ := Int.eq_ofNat_of_zero_le h0
  have hn : n ≤ 16 := by omega
  have : ∀ n : Fin 17, 0 ≤ (((n.val : Nat) : Int) * (((n.val : Nat) : Int) - 1)).tdiv 2 ∧ (((n.val : Nat) : Int) * (((n.val : Nat) : Int) - 1)).tdiv 2 ≤ 120 ∧ 0 ≤ ((n.val : Nat) : Int) * (((n.val : Nat) : Int) - 1) ∧ ((n.val : Nat) : Int) * (((n.val : Nat) : Int) - 1) ≤ 240 := by decide
  exact this ⟨n, by omega⟩
theorem pa_bd {c : Nat → Int} (h : ∀ y, 0 ≤ c y ∧ c y ≤ 16) : ∀ k, 0 ≤ pa c k ∧ pa c k ≤ 120 * k := by
  intro k
  induction k with
  | zero => exact ⟨Int.le_refl 0, Int.le_refl 0⟩
  | succ k ih =>
    have h1 := half_bd (c k) (h k).1 (h k).2
    show 0 ≤ pa c k + _ ∧ pa c k + _ ≤ _
    omega
theorem pa_out {c : Nat → Int} {m : Nat} (h : ∀ y, m ≤ y → c y = 0) : ∀ d, pa c (m + d) = pa c m := by
  intro d
  induction d with
  | zero => rfl
  | succ d ih =>
    show pa c (m + d) + (c (m + d) * (c (m + d) - 1)).tdiv 2 = _
    rw [ih, h (m + d) (by omega)]
    simp
/-- Two places for each value, but for one at most: what is left to look at, and how many had one place. -/
def tw (c : Nat → Int) : Nat → Nat → Nat → Bool
  | _, 0, a => decide (a ≤ 1)
  | i, n + 1, a => if 2 < c i then false else tw c (i + 1) n (if c i = 1 then a + 1 else a)
theorem tw_zero {c : Nat → Int} : ∀ n i a, (∀ y, i ≤ y → c y = 0) → tw c i n a = decide (a ≤ 1) := by
  intro n
  induction n with
  | zero => intro i a _; rfl
  | succ n ih =>
    intro i a h
    show (if 2 < c i then false else tw c (i + 1) n (if c i = 1 then a + 1 else a)) = _
    rw [h i (Nat.le_refl _), if_neg (by omega), if_neg (by omega)]
    exact ih (i + 1) a fun y hy => h y (by omega)
theorem tw_out {c : Nat → Int} {m d : Nat} (h : ∀ y, m ≤ y → c y = 0) : ∀ n i a, i + n = m → tw c i (n + d) a = tw c i n a := by
  intro n
  induction n with
  | zero =>
    intro i a hi
    rw [Nat.zero_add, tw_zero d i a fun y hy => h y (by omega)]
    rfl
  | succ n ih =>
    intro i a hi
    rw [Nat.succ_add]
    show (if 2 < c i then false else tw c (i + 1) (n + d) (if c i = 1 then a + 1 else a)) = (if 2 < c i then false else tw c (i + 1) n (if c i = 1 then a + 1 else a))
    rw [ih (i + 1) _ (by omega)]
/-- The first k with a sum other than 0. -/
def fm (s : Nat → Int) : Nat → Nat → Int × Bool
  | _, 0 => (0, false)
  | k, n + 1 => if s k = 0 then fm s (k + 1) n else ((k : Int), true)
theorem fm_no {s : Nat → Int} {k n : Nat} (hn : 0 < n) (h : s k = 0) : fm s k n = fm s (k + 1) (n - 1) := by
  obtain ⟨j, rfl⟩ : ∃ j, n = j + 1 := ⟨n - 1, by omega⟩
  show (if s k = 0 then fm s (k + 1) j else ((k : Int), true)) = _
  rw [if_pos h]
  rfl
theorem fm_yes {s : Nat → Int} {k n : Nat} (hn : 0 < n) (h : s k ≠ 0) : fm s k n = ((k : Int), true) := by
  obtain ⟨j, rfl⟩ : ∃ j, n = j + 1 := ⟨n - 1, by omega⟩
  show (if s k = 0 then fm s (k + 1) j else ((k : Int), true)) = _
  rw [if_neg h]
theorem tw_big {c : Nat → Int} {i n a : Nat} (hn : 0 < n) (h : 2 < c i) : tw c i n a = false := by
  obtain ⟨j, rfl⟩ : ∃ j, n = j + 1 := ⟨n - 1, by omega⟩
  show (if 2 < c i then false else tw c (i + 1) j (if c i = 1 then a + 1 else a)) = _
  rw [if_pos h]
theorem tw_one {c : Nat → Int} {i n a : Nat} (hn : 0 < n) (h : c i = 1) : tw c i n a = tw c (i + 1) (n - 1) (a + 1) := by
  obtain ⟨j, rfl⟩ : ∃ j, n = j + 1 := ⟨n - 1, by omega⟩
  show (if 2 < c i then false else tw c (i + 1) j (if c i = 1 then a + 1 else a)) = _
  rw [if_neg (by omega), if_pos h]
  rfl
theorem tw_oth {c : Nat → Int} {i n a : Nat} (hn : 0 < n) (h : ¬ 2 < c i) (h1 : ¬ c i = 1) : tw c i n a = tw c (i + 1) (n - 1) a := by
  obtain ⟨j, rfl⟩ : ∃ j, n = j + 1 := ⟨n - 1, by omega⟩
  show (if 2 < c i then false else tw c (i + 1) j (if c i = 1 then a + 1 else a)) = _
  rw [if_neg h, if_neg h1]
  rfl
end Go.Proofs.YtapglncgicfjnabGreat
/-! OM -/
namespace Go.Proofs.YtapglncgicfjnabGreat
/-- Sums over the first numbers. -/
def sg (G : Nat → Nat) : Nat → Nat
  | 0 => 0
  | n + 1 => sg G n + G n
theorem sg_congr {G H : Nat → Nat} : ∀ n, (∀ i, i < n → G i = H i) → sg G n = sg H n := by
  intro n
  induction n with
  | zero => intro _; rfl
  | succ n ih =>
    intro h
    show sg G n + G n = sg H n + H n
    rw [ih fun i hi => h i (by omega), h n (by omega)]
theorem sg_add (G : Nat → Nat) (M : Nat) : ∀ n, sg G (M + n) = sg G M + sg (fun i => G (M + i)) n := by
  intro n
  induction n with
  | zero => rfl
  | succ n ih =>
    show sg G (M + n) + G (M + n) = sg G M + (sg (fun i => G (M + i)) n + G (M + n))
    rw [ih]
    omega
theorem sg_plus (G H : Nat → Nat) : ∀ n, sg (fun i => G i + H i) n = sg G n + sg H n := by
  intro n
  induction n with
  | zero => rfl
  | succ n ih =>
    show sg (fun i => G i + H i) n + (G n + H n) = sg G n + G n + (sg H n + H n)
    rw [ih]
    omega
theorem sg_const (c : Nat) : ∀ n, sg (fun _ => c) n = n * c := by
  intro n
  induction n with
  | zero => simp [sg]
  | succ n ih =>
    show sg (fun _ => c) n + c = (n + 1) * c
    rw [ih, Nat.succ_mul]
theorem sg_hi (G : Nat → Nat) (M : Nat) : ∀ N, sg G (M * N) = sg (fun h => sg (fun n => G (n + M * h)) M) N := by
  intro N
  induction N with
  | zero => rfl
  | succ N ih =>
    rw [Nat.mul_succ, sg_add, ih]
    show _ = sg (fun h => sg (fun n => G (n + M * h)) M) N + sg (fun n => G (n + M * N)) M
    rw [sg_congr (G := fun i => G (M * N + i)) M fun i _ => by rw [Nat.add_comm]]
theorem sg_lo (G : Nat → Nat) (M : Nat) : ∀ N, sg G (M * N) = sg (fun x => sg (fun n => G (x + M * n)) N) M := by
  intro N
  induction N with
  | zero =>
    have : sg (fun _ => 0) M = 0 := by rw [sg_const]; omega
    exact this.symm
  | succ N ih =>
    rw [Nat.mul_succ, sg_add, ih]
    show _ = sg (fun x => sg (fun n => G (x + M * n)) N + G (x + M * N)) M
    rw [sg_plus]
    rw [sg_congr (G := fun i => G (M * N + i)) M fun i _ => by rw [Nat.add_comm]]
theorem sg_sum (G : Nat → Nat) : ∀ n, sg G n = ((List.range n).map G).sum := by
  intro n
  induction n with
  | zero => rfl
  | succ n ih =>
    rw [List.range_succ, List.map_append, List.sum_append, ← ih]
    simp [sg]
theorem sum_perm {l l' : List Nat} (h : l.Perm l') : l.sum = l'.sum := by
  induction h with
  | nil => rfl
  | cons x _ ih => simp [ih]
  | swap x y l => simp; omega
  | trans _ _ h1 h2 => exact h1.trans h2
/-- A change of the first m numbers for one another. -/
structure Chg (m : Nat) (p : Nat → Nat) : Prop where
  perm : ((List.range m).map p).Perm (List.range m)
  lt : ∀ x, x < m → p x < m
  inj : ∀ x y, x < m → y < m → p x = p y → x = y
theorem sg_chg {m : Nat} {p : Nat → Nat} (h : Chg m p) (G : Nat → Nat) : sg (fun y => G (p y)) m = sg G m := by
  rw [sg_sum, sg_sum, ← sum_perm (h.perm.map G), List.map_map]
  rfl
theorem filter_sg (P : Nat → Bool) : ∀ n, ((List.range n).filter P).length = sg (fun y => if P y then 1 else 0) n := by
  intro n
  induction n with
  | zero => rfl
  | succ n ih =>
    rw [List.range_succ, List.filter_append, List.length_append, ih]
    show _ = sg (fun y => if P y then 1 else 0) n + (if P n then 1 else 0)
    cases h : P n <;> simp [h]
theorem oc_sg (t : Nat → Int) (y : Nat) : ∀ n, (∀ i, i < n → 0 ≤ t i) → oc t n y = ((sg (fun i => if t i = (y : Int) then 1 else 0) n : Nat) : Int) := by
  intro n
  induction n with
  | zero => intro _; rfl
  | succ n ih =>
    intro ht
    have h1 := ih fun i hi => ht i (by omega)
    have h2 := ht n (by omega)
    show upd (oc t n) (t n).toNat (oc t n (t n).toNat + 1) y = ((sg (fun i => if t i = (y : Int) then 1 else 0) n + (if t n = (y : Int) then 1 else 0) : Nat) : Int)
    unfold upd
    by_cases e : t n = (y : Int)
    · rw [if_pos (by omega), if_pos e, e, Int.toNat_natCast, h1]
      rfl
    · rw [if_neg (by omega), if_neg e, h1]
      rfl
theorem sg_pos (G : Nat → Nat) : ∀ n, 0 < sg G n ↔ ∃ i, i < n ∧ 0 < G i := by
  intro n
  induction n with
  | zero => simp [sg]
  | succ n ih =>
    show 0 < sg G n + G n ↔ _
    constructor
    · intro h
      by_cases h0 : 0 < sg G n
      · obtain ⟨i, hi, hg⟩ := ih.1 h0
        exact ⟨i, by omega, hg⟩
      · exact ⟨n, by omega, by omega⟩
    · rintro ⟨i, hi, hg⟩
      by_cases e : i = n
      · subst e; omega
      · have := ih.2 ⟨i, by omega, hg⟩
        omega
theorem mt_iff {t : Nat → Int} {n y : Nat} (ht : ∀ i, i < n → 0 ≤ t i) : mt t n y = true ↔ ∃ i, i < n ∧ t i = (y : Int) := by
  unfold mt
  rw [decide_eq_true_iff, oc_sg t y n ht]
  have := sg_pos (fun i => if t i = (y : Int) then 1 else 0) n
  constructor
  · intro h
    obtain ⟨i, hi, hg⟩ := this.1 (by omega)
    refine ⟨i, hi, ?_⟩
    by_cases e : t i = (y : Int)
    · exact e
    · rw [if_neg e] at hg; omega
  · rintro ⟨i, hi, e⟩
    have := this.2 ⟨i, hi, by rw [if_pos e]; omega⟩
    omega
/-- How many values. -/
def nv (m : Nat) (t : Nat → Int) : Nat := ((List.range m).filter (mt t m)).length
theorem nv_le (m : Nat) (t : Nat → Int) : nv m t ≤ m := by
  have := List.length_filter_le (mt t m) (List.range m)
  rw [List.length_range] at this
  exact this
theorem oc_congr {t t' : Nat → Int} : ∀ n, (∀ i, i < n → t i = t' i) → oc t n = oc t' n := by
  intro n
  induction n with
  | zero => intro _; rfl
  | succ n ih =>
    intro h
    show upd (oc t n) (t n).toNat (oc t n (t n).toNat + 1) = upd (oc t' n) (t' n).toNat (oc t' n (t' n).toNat + 1)
    rw [ih fun i hi => h i (by omega), h n (by omega)]
theorem nv_congr {m : Nat} {t t' : Nat → Int} (h : ∀ i, i < m → t i = t' i) : nv m t = nv m t' := by
  unfold nv mt
  rw [oc_congr m h]
theorem nv_chg {m : Nat} {p : Nat → Nat} (hp : Chg m p) {t t' : Nat → Int} (ht : ∀ i, i < m → El (m : Int) (t i)) (h : ∀ i, i < m → t' i = (p (t i).toNat : Nat)) : nv m t' = nv m t := by
  unfold nv
  rw [filter_sg, filter_sg, ← sg_chg hp]
  refine sg_congr m fun y hy => ?_
  have h1 : ∀ i, i < m → 0 ≤ t' i := fun i hi => by rw [h i hi]; omega
  have h2 : ∀ i, i < m → 0 ≤ t i := fun i hi => (ht i hi).1
  have e : mt t' m (p y) = mt t m y := by
    rw [Bool.eq_iff_iff, mt_iff h1, mt_iff h2]
    constructor
    · rintro ⟨i, hi, e⟩
      rw [h i hi] at e
      have hti := ht i hi
      have h3 := hti.1
      have h4 := hti.2
      have := hp.inj _ _ (show (t i).toNat < m by omega) hy (by omega)
      exact ⟨i, hi, by omega⟩
    · rintro ⟨i, hi, e⟩
      exact ⟨i, hi, by rw [h i hi, e, Int.toNat_natCast]⟩
  rw [e]
/-- Products with an element other than 0, sums with an element: changes. -/
def chgOK (q : Nat) (p : Nat → Nat) : Bool := ((List.range q).map p).isPerm (List.range q) && ((List.range q).all fun x => decide (p x < q) && (List.range q).all fun y => !(p x == p y) || x == y)
theorem chg_of {q : Nat} {p : Nat → Nat} (h : chgOK q p = true) : Chg q p := by
  simp only [chgOK, Bool.and_eq_true, List.all_eq_true, List.mem_range, decide_eq_true_iff] at h
  refine ⟨List.isPerm_iff.1 h.1, fun x hx => (h.2 x hx).1, fun x y hx hy e => ?_⟩
  have := (h.2 x hx).2 y hy
  rw [e] at this
  simpa using this
def chgT : Bool := sizes.all fun q => (List.range q.toNat).all fun a => (a == 0 || chgOK q.toNat fun x => (mulF q (a : Int) (x : Int)).toNat) && chgOK q.toNat fun x => (addF q (a : Int) (x : Int)).toNat
set_option maxRecDepth 100000 in
theorem chgT_ok : chgT = true := by decide +kernel
theorem chg_both {m a : Nat} (h : isSz (m : Int) = true) (ha : a < m) : (a ≠ 0 → Chg m fun x => (mulF (m : Int) (a : Int) (x : Int)).toNat) ∧ Chg m fun x => (addF (m : Int) (a : Int) (x : Int)).toNat := by
  have h1 := chgT_ok
  simp only [chgT, List.all_eq_true, List.mem_range, Bool.and_eq_true, Bool.or_eq_true, beq_iff_eq] at h1
  have h2 := h1 (m : Int) (by unfold isSz at h; exact List.elem_iff.1 h) a (by omega)
  exact ⟨fun hn => chg_of (by rcases h2.1 with h3 | h3; · exact absurd h3 hn
                              · exact h3), chg_of h2.2⟩
theorem nv_mul {m a : Nat} (h : isSz (m : Int) = true) (ha : a < m) (h0 : a ≠ 0) {t t' : Nat → Int} (ht : ∀ i, i < m → El (m : Int) (t i)) (e : ∀ i, i < m → t' i = mulF (m : Int) (a : Int) (t i)) : nv m t' = nv m t := by
  refine nv_chg ((chg_both h ha).1 h0) ht fun i hi => ?_
  have h1 := (ht i hi).1
  have h2 := El.mul h (El.nat ha) (ht i hi)
  rw [e i hi, Int.toNat_of_nonneg h1, Int.toNat_of_nonneg h2.1]
theorem nv_add {m a : Nat} (h : isSz (m : Int) = true) (ha : a < m) {t t' : Nat → Int} (ht : ∀ i, i < m → El (m : Int) (t i)) (e : ∀ i, i < m → t' i = addF (m : Int) (a : Int) (t i)) : nv m t' = nv m t := by
  refine nv_chg (chg_both h ha).2 ht fun i hi => ?_
  have h1 := (ht i hi).1
  have h2 := El.add h (El.nat ha) (ht i hi)
  rw [e i hi, Int.toNat_of_nonneg h1, Int.toNat_of_nonneg h2.1]
/-- The digits of a number. -/
def dgt (m n : Nat) : Nat → Int := fun i => ((n / m ^ i % m : Nat) : Int)
def csn (x : Int) (f : Nat → Int) : Nat → Int := fun i => if i = 0 then x else f (i - 1)
def scl (m a : Nat) (f : Nat → Int) : Nat → Int := fun i => mulF (m : Int) (a : Int) (f i)
theorem dgt_el {m n : Nat} (hm : 1 ≤ m) (i : Nat) : El (m : Int) (dgt m n i) := by
  have := Nat.mod_lt (n / m ^ i) (show 0 < m by omega)
  unfold dgt El
  omega
theorem dgt_cons {m x n : Nat} (hx : x < m) : dgt m (x + m * n) = csn (x : Int) (dgt m n) := by
  funext i
  unfold csn dgt
  by_cases hi : i = 0
  · subst hi
    rw [if_pos rfl, Nat.pow_zero, Nat.div_one, Nat.add_mul_mod_self_left, Nat.mod_eq_of_lt hx]
  · obtain ⟨j, rfl⟩ : ∃ j, i = j + 1 := ⟨i - 1, by omega⟩
    rw [if_neg hi, Nat.add_sub_cancel, Nat.pow_succ, Nat.mul_comm (m ^ j) m, ← Nat.div_div_eq_div_mul, Nat.add_mul_div_left _ _ (show 0 < m by omega), Nat.div_eq_of_lt hx, Nat.zero_add]
/-- Sums over all digits. -/
def rs (m d : Nat) (H : (Nat → Int) → Nat) : Nat := sg (fun n => H (dgt m n)) (m ^ d)
theorem rs_congr {m d : Nat} {H H' : (Nat → Int) → Nat} (h : ∀ n, H (dgt m n) = H' (dgt m n)) : rs m d H = rs m d H' := sg_congr _ fun i _ => h i
theorem rs_succ (m d : Nat) (H : (Nat → Int) → Nat) : rs m (d + 1) H = sg (fun x => rs m d fun f => H (csn (x : Int) f)) m := by
  unfold rs
  rw [Nat.pow_succ, Nat.mul_comm, sg_lo]
  refine sg_congr m fun x hx => sg_congr _ fun n _ => ?_
  rw [dgt_cons hx]
theorem scl_cons (m a x : Nat) (h : isSz (m : Int) = true) (ha : a < m) (hx : x < m) (f : Nat → Int) : scl m a (csn (x : Int) f) = csn (((mulF (m : Int) (a : Int) (x : Int)).toNat : Nat) : Int) (scl m a f) := by
  funext i
  by_cases hi : i = 0
  · subst hi
    show mulF (m : Int) (a : Int) (x : Int) = (((mulF (m : Int) (a : Int) (x : Int)).toNat : Nat) : Int)
    rw [Int.toNat_of_nonneg (El.mul h (El.nat ha) (El.nat hx)).1]
  · show mulF (m : Int) (a : Int) (if i = 0 then (x : Int) else f (i - 1)) = if i = 0 then _ else mulF (m : Int) (a : Int) (f (i - 1))
    rw [if_neg hi, if_neg hi]
theorem rs_scl {m a : Nat} (h : isSz (m : Int) = true) (ha : a < m) (h0 : a ≠ 0) : ∀ d (H : (Nat → Int) → Nat), rs m d (fun f => H (scl m a f)) = rs m d H := by
  intro d
  induction d with
  | zero =>
    intro H
    have e : scl m a (dgt m 0) = dgt m 0 := by
      funext i
      unfold scl dgt
      rw [Nat.zero_div, Nat.zero_mod]
      exact (mul_zero' h (El.nat ha)).2
    show 0 + H (scl m a (dgt m 0)) = 0 + H (dgt m 0)
    rw [e]
  | succ d ih =>
    intro H
    rw [rs_succ, rs_succ]
    rw [← sg_chg ((chg_both h ha).1 h0) (fun x => rs m d fun f => H (csn (x : Int) f))]
    refine sg_congr m fun x hx => ?_
    rw [← ih (fun f => H (csn (((mulF (m : Int) (a : Int) (x : Int)).toNat : Nat) : Int) f))]
    refine rs_congr fun n => ?_
    rw [scl_cons m a x h ha hx]
/-- A last coefficient. -/
def topF (d : Nat) (a : Int) (f : Nat → Int) : Nat → Int := fun i => if i < d then f i else if i = d then a else 0
theorem topF_el {m d : Nat} {a : Int} {f : Nat → Int} (h : isSz (m : Int) = true) (ha : El (m : Int) a) (hf : ∀ i, El (m : Int) (f i)) (i : Nat) : El (m : Int) (topF d a f i) := by
  unfold topF
  split
  · exact hf i
  · split
    · exact ha
    · exact El.zero h
/-- The table of values. -/
def vt (m d : Nat) (a : Int) (f : Nat → Int) : Nat → Int := fun x => val (m : Int) (topF d a f) (d + 1) (x : Int)
theorem vt_el {m d : Nat} {a : Int} {f : Nat → Int} (h : isSz (m : Int) = true) (ha : El (m : Int) a) (hf : ∀ i, El (m : Int) (f i)) (x : Nat) (hx : x < m) : El (m : Int) (vt m d a f x) := val_el h (topF_el h ha hf) (El.nat hx) _
theorem vt_scl {m d a : Nat} {f : Nat → Int} (h : isSz (m : Int) = true) (ha : a < m) (hf : ∀ i, El (m : Int) (f i)) (x : Nat) (hx : x < m) : vt m d (a : Int) (scl m a f) x = mulF (m : Int) (a : Int) (vt m d 1 f x) := by
  have hel := topF_el (d := d) h (El.one h) hf
  unfold vt val
  rw [← lsum_mul h (El.nat ha) fun i _ => (hel i).mul h (El.pw h (El.nat hx) i)]
  refine lsum_congr fun i _ => ?_
  rw [← mul_assoc' h (El.nat ha) (hel i) (El.pw h (El.nat hx) i)]
  congr 1
  unfold topF scl
  split
  · rfl
  · split
    · exact (mul_one' h (El.nat ha)).2.symm
    · exact (mul_zero' h (El.nat ha)).2.symm
theorem vt_cons {m d x : Nat} {f : Nat → Int} (h : isSz (m : Int) = true) (hx : x < m) (hf : ∀ i, El (m : Int) (f i)) (y : Nat) (hy : y < m) : vt m (d + 1) 1 (csn (x : Int) f) y = addF (m : Int) (x : Int) (vt m (d + 1) 1 (csn 0 f) y) := by
  have hc : ∀ c, El (m : Int) c → ∀ i, El (m : Int) (csn c f i) := fun c hc i => by
    unfold csn
    split
    · exact hc
    · exact hf _
  have h1 := topF_el (d := d + 1) h (El.one h) (hc _ (El.nat hx))
  have h2 := topF_el (d := d + 1) h (El.one h) (hc _ (El.zero h))
  have hp := fun i => El.pw h (El.nat hy) i
  unfold vt val
  rw [lsum_front h fun i _ => (h1 i).mul h (hp i), lsum_front h fun i _ => (h2 i).mul h (hp i)]
  have e0 : ∀ c, topF (d + 1) 1 (csn c f) 0 = c := fun c => by simp [topF, csn]
  have e1 : ∀ i, topF (d + 1) 1 (csn (x : Int) f) (i + 1) = topF (d + 1) 1 (csn 0 f) (i + 1) := fun i => by simp [topF, csn]
  simp only [e0, e1]
  rw [show pw (m : Int) (y : Int) 0 = 1 from rfl, (mul_one' h (El.nat hx)).2, (mul_one' h (El.zero h)).2, (add_zero' h (lsum_el h fun i _ => (h2 (i + 1)).mul h (hp (i + 1)))).2]
/-- How many of all polynomials of a degree have k values. -/
def allV (m d k : Nat) : Nat := sg (fun n => if nv m (vt m d ((1 + n / m ^ d : Nat) : Int) (dgt m n)) = k then 1 else 0) (m ^ d * (m - 1))
def plainV (m d k : Nat) : Nat := sg (fun j => if nv m (vt m d 1 (dgt m (m * j))) = k then 1 else 0) (m ^ (d - 1))
theorem topF_low {d : Nat} {a : Int} {f g : Nat → Int} (h : ∀ i, i < d → f i = g i) : topF d a f = topF d a g := by
  funext i
  unfold topF
  split
  · exact h i (by assumption)
  · rfl
theorem dgt_low {m d n hi i : Nat} (hm : 1 ≤ m) (h : i < d) : dgt m (n + m ^ d * hi) i = dgt m n i := by
  unfold dgt
  have e : m ^ d = m ^ i * (m * m ^ (d - i - 1)) := by
    rw [← Nat.mul_assoc, ← Nat.pow_succ, ← Nat.pow_add]
    congr 1
    omega
  rw [e, Nat.mul_assoc, Nat.add_mul_div_left _ _ (Nat.pow_pos (by omega)), Nat.mul_assoc, Nat.add_mul_mod_self_left]
theorem all_plain {m d k : Nat} (h : isSz (m : Int) = true) (hd : 1 ≤ d) : allV m d k = (m - 1) * (m * plainV m d k) := by
  have hq := isSz_le (m : Int) h
  have hm : 2 ≤ m := by omega
  have hde : ∀ n i, El (m : Int) (dgt m n i) := fun n i => dgt_el (by omega) i
  unfold allV
  rw [sg_hi]
  have h1 : ∀ hi, hi < m - 1 → sg (fun n => if nv m (vt m d ((1 + (n + m ^ d * hi) / m ^ d : Nat) : Int) (dgt m (n + m ^ d * hi))) = k then 1 else 0) (m ^ d) = rs m d (fun f => if nv m (vt m d 1 f) = k then 1 else 0) := fun hi hhi => by
    have ha : 1 + hi < m := by omega
    have h2 : rs m d (fun f => if nv m (vt m d ((1 + hi : Nat) : Int) (scl m (1 + hi) f)) = k then 1 else 0) = rs m d (fun f => if nv m (vt m d ((1 + hi : Nat) : Int) f) = k then 1 else 0) := rs_scl h ha (by omega) d (fun f => if nv m (vt m d ((1 + hi : Nat) : Int) f) = k then 1 else 0)
    have h3 : rs m d (fun f => if nv m (vt m d ((1 + hi : Nat) : Int) (scl m (1 + hi) f)) = k then 1 else 0) = rs m d (fun f => if nv m (vt m d 1 f) = k then 1 else 0) := rs_congr fun n => by
      rw [nv_mul h ha (by omega) (fun i hi => vt_el h (El.one h) (hde n) i hi) fun i hi => vt_scl h ha (hde n) i hi]
    rw [← h3, h2]
    refine sg_congr _ fun n hn => ?_
    have e1 : (n + m ^ d * hi) / m ^ d = hi := by rw [Nat.add_mul_div_left _ _ (Nat.pow_pos (by omega)), Nat.div_eq_of_lt hn, Nat.zero_add]
    have e2 : vt m d ((1 + hi : Nat) : Int) (dgt m (n + m ^ d * hi)) = vt m d ((1 + hi : Nat) : Int) (dgt m n) := by
      unfold vt
      rw [topF_low fun i hi => dgt_low (by omega) hi]
    rw [e1, e2]
  rw [sg_congr _ h1, sg_const]
  congr 1
  obtain ⟨e, rfl⟩ : ∃ e, d = e + 1 := ⟨d - 1, by omega⟩
  rw [rs_succ]
  have h2 : ∀ x, x < m → rs m e (fun f => if nv m (vt m (e + 1) 1 (csn (x : Int) f)) = k then 1 else 0) = plainV m (e + 1) k := fun x hx => by
    unfold plainV
    rw [Nat.add_sub_cancel]
    refine sg_congr _ fun n _ => ?_
    have e1 : dgt m (m * n) = csn 0 (dgt m n) := by
      have := dgt_cons (m := m) (x := 0) (n := n) (by omega)
      rw [Nat.zero_add] at this
      exact this
    have hz : ∀ i, El (m : Int) (csn 0 (dgt m n) i) := fun i => by
      unfold csn
      by_cases hi : i = 0
      · rw [if_pos hi]; exact El.zero h
      · rw [if_neg hi]; exact hde n _
    have e2 : nv m (vt m (e + 1) 1 (csn (x : Int) (dgt m n))) = nv m (vt m (e + 1) 1 (csn 0 (dgt m n))) := nv_add h hx (fun i hi => vt_el h (El.one h) hz i hi) fun i hi => vt_cons h hx (hde n) i hi
    show (if nv m (vt m (e + 1) 1 (csn (x : Int) (dgt m n))) = k then 1 else 0) = (if nv m (vt m (e + 1) 1 (dgt m (m * n))) = k then 1 else 0)
    rw [e2, e1]
  rw [sg_congr _ h2, sg_const]
/-- Degree 0: each constant other than 0 has one value. -/
theorem nv_const {m a : Nat} (ha : a < m) {t : Nat → Int} (e : ∀ i, i < m → t i = (a : Int)) : nv m t = 1 := by
  have h0 : ∀ i, i < m → 0 ≤ t i := fun i hi => by rw [e i hi]; omega
  unfold nv
  have : ∀ y, y < m → mt t m y = decide (y = a) := fun y hy => by
    rw [Bool.eq_iff_iff, mt_iff h0, decide_eq_true_iff]
    constructor
    · rintro ⟨i, hi, h⟩
      rw [e i hi] at h
      omega
    · rintro rfl
      exact ⟨y, hy, e y hy⟩
  rw [filter_sg, sg_congr m fun y hy => by rw [this y hy]]
  have h1 : ∀ n, sg (fun y => if decide (y = a) = true then 1 else 0) n = if a < n then 1 else 0 := by
    intro n
    induction n with
    | zero => rfl
    | succ n ih =>
      show sg (fun y => if decide (y = a) = true then 1 else 0) n + (if decide (n = a) = true then 1 else 0) = _
      rw [ih]
      by_cases h2 : n = a
      · rw [if_neg (by omega), if_pos (by simpa using h2), if_pos (by omega)]
      · rw [if_neg (c := decide (n = a) = true) (by simpa using h2)]
        by_cases h3 : a < n
        · rw [if_pos h3, if_pos (by omega)]
        · rw [if_neg h3, if_neg (by omega)]
  rw [h1, if_pos ha]
end Go.Proofs.YtapglncgicfjnabGreat
/-! OC -/
namespace Go.Proofs.YtapglncgicfjnabGreat
open Go.RowKit
/-- The cells of counts. -/
def VA (q : Int) (c : Nat → Int) : Array Value := #[.int .i64 q, .int .i64 (pr q), .int .i64 (pl q), .int .i64 (c 0), .int .i64 (c 1), .int .i64 (c 2), .int .i64 (c 3), .int .i64 (c 4), .int .i64 (c 5), .int .i64 (c 6), .int .i64 (c 7), .int .i64 (c 8), .int .i64 (c 9), .int .i64 (c 10), .int .i64 (c 11), .int .i64 (c 12), .int .i64 (c 13), .int .i64 (c 14), .int .i64 (c 15)]
theorem VA_size (q : Int) (c : Nat → Int) : (VA q c).size = 19 := rfl
theorem VA_get (q : Int) (c : Nat → Int) (i : Nat) (hi : i < 16) : (VA q c)[3 + i]? = some (.int .i64 (c i)) := by
  have hc : i = 0 ∨ i = 1 ∨ i = 2 ∨ i = 3 ∨ i = 4 ∨ i = 5 ∨ i = 6 ∨ i = 7 ∨ i = 8 ∨ i = 9 ∨ i = 10 ∨ i = 11 ∨ i = 12 ∨ i = 13 ∨ i = 14 ∨ i = 15 := by omega
  rcases hc with rfl | rfl | rfl | rfl | rfl | rfl | rfl | rfl | rfl | rfl | rfl | rfl | rfl | rfl | rfl | rfl
  all_goals rfl
theorem VA_set (q : Int) (c : Nat → Int) (i : Nat) (hi : i < 16) (x : Int) : (VA q c).setIfInBounds (3 + i) (.int .i64 x) = VA q (upd c i x) := by
  have hc : i = 0 ∨ i = 1 ∨ i = 2 ∨ i = 3 ∨ i = 4 ∨ i = 5 ∨ i = 6 ∨ i = 7 ∨ i = 8 ∨ i = 9 ∨ i = 10 ∨ i = 11 ∨ i = 12 ∨ i = 13 ∨ i = 14 ∨ i = 15 := by omega
  rcases hc with rfl | rfl | rfl | rfl | rfl | rfl | rfl | rfl | rfl | rfl | rfl | rfl | rfl | rfl | rfl | rfl
  all_goals simp [VA, upd]
theorem VA_one (q : Int) (c : Nat → Int) : (VA q c).all (·.oneCell') = true := by
  simp [VA, Value.oneCell']
abbrev vblk (q : Int) (c : Nat → Int) : Obj := .cells (VA q c) 80
theorem vcells {w : World} {b : Nat} {q : Int} {c : Nat → Int} {T : TypeId} (h : w.heap[b]? = some (.cells (VA q c) T (0, 0))) :
    w.cell? ⟨b, 0, none⟩ = some (.int .i64 q) ∧ w.cell? ⟨b, 1, none⟩ = some (.int .i64 (pr q)) ∧ w.cell? ⟨b, 2, none⟩ = some (.int .i64 (pl q)) ∧ (∀ i, i < 16 → w.cell? ⟨b, 3 + i, none⟩ = some (.int .i64 (c i))) ∧ (∀ o, w.frozen? ⟨b, o, none⟩ = false) := by
  refine ⟨?_, ?_, ?_, fun i hi => ?_, fun o => frozen_of_row w b o _ _ h⟩
  · rw [cell_of_row w b _ _ _ _ h]; rfl
  · rw [cell_of_row w b _ _ _ _ h]; rfl
  · rw [cell_of_row w b _ _ _ _ h]; rfl
  · rw [cell_of_row w b _ _ _ _ h]; exact VA_get q c i hi
/-- The memory of countsIn between two rounds. -/
structure TV (w0 wr : World) (m : Nat) (c : Nat → Int) : Prop where
  hz : ∃ cs, cs.size = 19 ∧ wr.heap[w0.heap.size + 1]? = some (.cells cs 80 (0, 0))
  hF : wr.heap[w0.heap.size + 2]? = some (vblk (m : Int) c)
  bel : Below w0.heap.size w0 wr
theorem TV.lt {w0 wr : World} {m : Nat} {c : Nat → Int} (h : TV w0 wr m c) : w0.heap.size + 2 < wr.heap.size := (Array.getElem?_eq_some_iff.1 h.hF).1
theorem TV.below {w0 wr w' : World} {m : Nat} {c : Nat → Int} (h : TV w0 wr m c) (hb : Below wr.heap.size wr w') : TV w0 w' m c := by
  have h1 := h.lt
  have h3 := h.bel.size
  obtain ⟨cs, hc, hz⟩ := h.hz
  exact ⟨⟨cs, hc, (hb.block _ (by omega)).trans hz⟩, (hb.block _ h1).trans h.hF, h.bel.trans (hb.mono h3)⟩
theorem TV.put {w0 wr : World} {m : Nat} {c : Nat → Int} (h : TV w0 wr m c) (i : Nat) (hi : i < 16) (x : Int) : TV w0 (wr.setCell ⟨w0.heap.size + 2, 3 + i, none⟩ (.int .i64 x)) m (upd c i x) := by
  obtain ⟨cs, hc, hz⟩ := h.hz
  have h2 := heap_setCell_same wr (w0.heap.size + 2) (3 + i) _ _ (.int .i64 x) h.hF
  rw [VA_set _ _ _ hi] at h2
  exact ⟨⟨cs, hc, (heap_setCell_other _ _ _ _ (by simp)).trans hz⟩, h2, h.bel.setCell (by simp) _⟩
theorem VA_zero (q : Int) : VA q (fun _ => 0) = #[.int .i64 q, .int .i64 (pr q), .int .i64 (pl q), .int .i64 0, .int .i64 0, .int .i64 0, .int .i64 0, .int .i64 0, .int .i64 0, .int .i64 0, .int .i64 0, .int .i64 0, .int .i64 0, .int .i64 0, .int .i64 0, .int .i64 0, .int .i64 0, .int .i64 0, .int .i64 0] := rfl
abbrev zvblk : Obj := .cells #[.int .i64 0, .int .i64 0, .int .i64 0, .int .i64 0, .int .i64 0, .int .i64 0, .int .i64 0, .int .i64 0, .int .i64 0, .int .i64 0, .int .i64 0, .int .i64 0, .int .i64 0, .int .i64 0, .int .i64 0, .int .i64 0, .int .i64 0, .int .i64 0, .int .i64 0] 80
theorem TV.start (w : World) (m : Nat) (o : Obj) : TV w ((((w.alloc o).alloc zvblk).alloc zvblk).setRow (w.heap.size + 1 + 1) (VA (m : Int) fun _ => 0)) m fun _ => 0 := by
  have HTH := three w o zvblk zvblk
  refine ⟨⟨_, ?_, (setRow_other _ _ _ _ (by omega)).trans HTH.2.1⟩, setRow_heap _ _ _ _ _ _ HTH.2.2, below_setRow ((((Below.refl w.heap.size w).alloc (by simp) _).alloc (by simp) _).alloc (by simp; omega) _) (by omega) _⟩
  rfl
set_option maxRecDepth 100000 in
set_option maxHeartbeats 4000000 in
/-- impl.field.countsIn. -/
theorem countsInE (m g n cap : Nat) (t : Nat → Int) (w : World) (h : isSz (m : Int) = true) (hg : g < w.heap.size) (he : Els w g (m : Int) t n) (ht : ∀ i, i < n → El (m : Int) (t i)) (hn : n ≤ 1000) :
    Calls Tryz.prog 81 #[fdE (m : Int), .slice (some ⟨g, 0, none⟩) n cap] w fun e w' => e = .returned (.agg (VA (m : Int) (oc t n))) ∧ Below w.heap.size w w' := by
  have hq := isSz_le (m : Int) h
  have HN := Lib.hid (fun i w (hi : i < n) => numberE (m : Int) (t i) w h (ht i hi).1 (ht i hi).2)
  have HT := Lib.hid ht
  have HE := Lib.hid he
  have HBD := Lib.hid (oc_bd t)
  have HSU := Lib.hid (oc_succ t)
  have HO0 : Hid (oc t 0 = fun _ => 0) := Lib.hid rfl
  clear h he ht
  go_enter Tryz.func81, Tryz.ntmps81
  have HTH := Lib.hid (three w (.cells #[.int .i64 m, .int .i64 (pr m), .int .i64 (pl m)] 61) zvblk zvblk)
  have HI : Hid ((Tryz.prog.info? 80).map (·.size) = some (VA (m : Int) fun _ => 0).size) := Lib.hid (by rw [VA_size]; kernel_rfl)
  have HV1 := Lib.hid (VA_one (m : Int) fun _ => 0)
  go_wp2_with (first | (refine wpList_store_rowTo rfl 80 _ _ rfl rfl (w.heap.size + 1 + 1) (VA (m : Int) fun _ => 0) rfl rfl 80 _ HTH.out.2.2 HI.out rfl HV1.out ?_) | fail)
  go_loopw [12] (fun vi wr => ∃ i : Nat, i ≤ n ∧ vi = .int .i64 i ∧ TV w wr m (oc t i)) (fun vi _ => n - (intOf vi).toNat)
  case atStart =>
    exact ⟨0, Nat.zero_le _, rfl, by rw [HO0.out]; exact TV.start _ _ _⟩
  case round =>
    obtain ⟨i, hin, rfl, hv⟩ := hrel
    have hzb := hv.bel.size
    have hlv := hv.lt
    by_cases hlt : i < n
    · obtain ⟨c0, c1, c2, c3, c4, c5, c6⟩ := (HE.out.below hv.bel hg) i hlt
      have hgr : g < wr.heap.size := by omega
      have hte := HT.out i hlt
      have HN' := Lib.hid (fun w => HN.out i w hlt)
      obtain ⟨k, hk⟩ := Int.eq_ofNat_of_zero_le hte.1
      have hk2 : k < 16 := by have := hte.2; omega
      have HUP := Lib.hid (HSU.out i k hk)
      have hbd := HBD.out i k
      rw [hk] at HN' c3 c4 c5 c6
      have HV := Lib.hid hv
      clear hv hte hk
      obtain ⟨x, hx⟩ : ∃ x, oc t i k = x := ⟨_, rfl⟩
      have hxx : oc t i k = x := hx
      rw [hx] at hbd HUP
      clear hx
      have HXX := Lib.hid hxx
      clear hxx
      have hwr : IntKind.i64.wrap (x + 1) = x + 1 := IntWalk.i64_in _ (by omega)
      go_wp2_with fail
      refine (HN'.out _).mono ?_
      rintro e w5 ⟨rfl, hb5⟩
      have hbz : Below wr.heap.size wr w5 := by (repeat' (first | (with_reducible assumption) | (with_reducible exact Below.refl _ _) | (with_reducible refine below_drewN ?_ _) | (with_reducible refine Below.drew ?_) | (with_reducible refine Below.alloc ?_ ?_ _) | (with_reducible refine Below.setCell ?_ ?_ _) | (with_reducible refine Below.trans ?_ (Below.mono (by assumption) ?_)) | (with_reducible exact Nat.le_refl _) | (with_reducible assumption) | omega | (simp; omega) | (simp; done)))
      have ht5 := HV.out.below (w' := w5) hbz
      obtain ⟨v0, v1, v2, vc, vf⟩ := vcells ht5.hF
      have hck := vc k hk2
      rw [HXX.out] at hck
      have hfk := vf (3 + k)
      have hz5 := hbz.size
      have HV5 := Lib.hid (ht5.put k hk2 (x + 1))
      rw [← HUP.out] at HV5
      clear v0 v1 v2 vc vf ht5 hb5 hbz HV HN' HXX c0 c1 c2 c3 c4 c5 c6
      go_wp2
      go_roundw
      case rel => exact ⟨i + 1, by omega, by go_num, HV5.out⟩
      case measure => simp [intOf]; omega
    · obtain rfl : n = i := by omega
      have HV := Lib.hid hv.bel
      have hF : wr.heap[w.heap.size + 1 + 1]? = some (.cells (VA (m : Int) (oc t n)) 80 (0, 0)) := hv.hF
      obtain ⟨cs, hcs, hz⟩ := hv.hz
      have hu := Tryz.underlying80
      have hi : (Tryz.prog.info? 80).map (·.size) = some (VA (m : Int) (oc t n)).size := by rw [VA_size]; kernel_rfl
      have hz2 : cs.size = (VA (m : Int) (oc t n)).size := hcs
      have hone := VA_one (m : Int) (oc t n)
      clear hv HN HT HE HBD HSU HO0
      obtain ⟨A, hA⟩ : ∃ A, VA (m : Int) (oc t n) = A := ⟨_, rfl⟩
      rw [hA] at hF hi hz2 hone
      have HA := Lib.hid hA
      clear hA
      go_wp2_with (first | refine wpList_load_row rfl 80 _ rfl (w.heap.size + 1 + 1) rfl 80 A (0, 0) _ hF hu rfl hi ?_ | refine wpList_store_row rfl 80 _ _ rfl (w.heap.size + 1) A rfl rfl 80 _ hz hi hz2 hone ?_ | fail)
      refine bodyPost_ret (results_cell_row rfl _ _ (w.heap.size + 1) 80 A (0, 0) _ rfl (setRow_heap wr (w.heap.size + 1) _ A _ _ hz) hu rfl hi) rfl ?_
      exact ⟨by rw [HA.out], below_setRow HV.out (by omega) A⟩
end Go.Proofs.YtapglncgicfjnabGreat
/-! OD -/
namespace Go.Proofs.YtapglncgicfjnabGreat
open Go.RowKit
/-- The cells of a table with counts. -/
def VB (q : Int) (c : Nat → Int) (v : Value) : Array Value := #[.int .i64 q, .int .i64 (pr q), .int .i64 (pl q), .int .i64 (c 0), .int .i64 (c 1), .int .i64 (c 2), .int .i64 (c 3), .int .i64 (c 4), .int .i64 (c 5), .int .i64 (c 6), .int .i64 (c 7), .int .i64 (c 8), .int .i64 (c 9), .int .i64 (c 10), .int .i64 (c 11), .int .i64 (c 12), .int .i64 (c 13), .int .i64 (c 14), .int .i64 (c 15), v]
theorem VB_size (q : Int) (c : Nat → Int) (v : Value) : (VB q c v).size = 20 := rfl
theorem VB_one (q : Int) (c : Nat → Int) (a : Option Addr) (n k : Nat) : (VB q c (.slice a n k)).all (·.oneCell') = true := by
  simp [VB, Value.oneCell']
abbrev zvtblk : Obj := .cells #[.int .i64 0, .int .i64 0, .int .i64 0, .int .i64 0, .int .i64 0, .int .i64 0, .int .i64 0, .int .i64 0, .int .i64 0, .int .i64 0, .int .i64 0, .int .i64 0, .int .i64 0, .int .i64 0, .int .i64 0, .int .i64 0, .int .i64 0, .int .i64 0, .int .i64 0, .slice none 0 0] 82
set_option maxRecDepth 100000 in
set_option maxHeartbeats 4000000 in
/-- impl.poly.valueTable. -/
theorem valueTableE (m g n cap : Nat) (f : Nat → Int) (w : World) (h : isSz (m : Int) = true) (hg : g < w.heap.size) (he : Els w g (m : Int) f n) (hf : ∀ i, El (m : Int) (f i)) (hn : n ≤ 1000) :
    Calls Tryz.prog 165 #[polyE (m : Int) (.slice (some ⟨g, 0, none⟩) n cap)] w fun e w' => ∃ g', e = .returned (.agg (VB (m : Int) (oc (tabF m f n) m) (.slice (some ⟨g', 0, none⟩) m m))) ∧ w.heap.size ≤ g' ∧ g' < w'.heap.size ∧ Els w' g' (m : Int) (tabF m f n) m ∧ Below w.heap.size w w' := by
  have hq := isSz_le (m : Int) h
  have HT := Lib.hid (fun w' (hb : Below w.heap.size w w') => tableM m g n cap f w' h (by have := hb.size; omega) (he.below hb hg) (fun i _ => hf i) hn)
  have HTE := Lib.hid (fun i (hi : i < m) => tab_el (k := n) h hf i hi)
  have HC := Lib.hid (fun g2 w' (hg2 : g2 < w'.heap.size) (he2 : Els w' g2 (m : Int) (tabF m f n) m) => countsInE m g2 m m (tabF m f n) w' h hg2 he2 (fun i hi => HTE.out i hi) (by omega))
  clear h he hf HTE
  generalize tabF (m : Int) f n = t at *
  go_enter Tryz.func165, Tryz.ntmps165
  go_wp2_with fail
  refine (HT.out _ (by (repeat' (first | (with_reducible assumption) | (with_reducible exact Below.refl _ _) | (with_reducible refine below_drewN ?_ _) | (with_reducible refine Below.drew ?_) | (with_reducible refine Below.alloc ?_ ?_ _) | (with_reducible refine Below.setCell ?_ ?_ _) | (with_reducible refine Below.trans ?_ (Below.mono (by assumption) ?_)) | (with_reducible exact Nat.le_refl _) | (with_reducible assumption) | omega | (simp; omega) | (simp; done))))).mono ?_
  rintro e w1 ⟨g1, rfl, hg1, hk1, he1, hb1⟩
  have hgl1 := hk1.lt
  have HE1 := Lib.hid he1
  clear hk1 he1
  have HTW := Lib.hid (two w (pblk (m : Int) (.slice (some ⟨g, 0, none⟩) n cap)) zvtblk)
  have l1 : w.heap.size + 1 < w1.heap.size := by have := hb1.size; simp at this; omega
  obtain ⟨x0, x1, x2, x3, _⟩ := cells4 ((hb1.block w.heap.size (by simp; omega)).trans HTW.out.1)
  obtain ⟨hc1, hf1⟩ := bcell hb1; have hz1 := hb1.size; (try simp at hz1); have HB1 := Lib.hid hb1; clear hb1
  simp at hg1
  go_wp2_with fail
  refine (HC.out g1 _ hgl1 HE1.out).mono ?_
  rintro e w2 ⟨rfl, hb2⟩
  have HZ2 : Hid (w2.heap[w.heap.size + 1]? = some (.cells #[.int .i64 0, .int .i64 0, .int .i64 0, .int .i64 0, .int .i64 0, .int .i64 0, .int .i64 0, .int .i64 0, .int .i64 0, .int .i64 0, .int .i64 0, .int .i64 0, .int .i64 0, .int .i64 0, .int .i64 0, .int .i64 0, .int .i64 0, .int .i64 0, .int .i64 0, .slice none 0 0] 82 (0, 0))) := Lib.hid ((hb2.block _ l1).trans (((HB1.out).block _ (by simp)).trans HTW.out.2))
  have HE2 := Lib.hid (HE1.out.below hb2 hgl1)
  obtain ⟨hc2, hf2⟩ := bcell hb2; have hz2 := hb2.size; (try simp at hz2); have HB2 := Lib.hid hb2; clear hb2
  have HI : Hid ((Tryz.prog.info? 82).map (·.size) = some (VB (m : Int) (oc t m) (.slice (some ⟨g1, 0, none⟩) m m)).size) := Lib.hid (by rw [VB_size]; kernel_rfl)
  have HV1 := Lib.hid (VB_one (m : Int) (oc t m) (some ⟨g1, 0, none⟩) m m)
  have hu := Tryz.underlying82
  go_wp2_with (first | (refine wpList_buildTo rfl 82 _ rfl _ rfl (VB (m : Int) (oc t m) (.slice (some ⟨g1, 0, none⟩) m m)) (by kernel_rfl) ?_) | (refine wpList_store_rowTo rfl 82 _ _ rfl rfl (w.heap.size + 1) (VB (m : Int) (oc t m) (.slice (some ⟨g1, 0, none⟩) m m)) rfl rfl 82 _ HZ2.out HI.out rfl HV1.out ?_) | fail)
  refine bodyPost_ret (results_cell_row rfl _ _ (w.heap.size + 1) 82 _ (0, 0) _ rfl (setRow_heap w2 (w.heap.size + 1) _ _ _ _ HZ2.out) hu rfl HI.out) rfl ?_
  have hb1 := HB1.out
  have hb2 := HB2.out
  refine ⟨g1, rfl, by omega, ?_, HE2.out.same (setRow_other _ _ _ _ (by omega)), below_setRow (by (repeat' (first | (with_reducible assumption) | (with_reducible exact Below.refl _ _) | (with_reducible refine below_drewN ?_ _) | (with_reducible refine Below.drew ?_) | (with_reducible refine Below.alloc ?_ ?_ _) | (with_reducible refine Below.setCell ?_ ?_ _) | (with_reducible refine Below.trans ?_ (Below.mono (by assumption) ?_)) | (with_reducible exact Nat.le_refl _) | (with_reducible assumption) | omega | (simp; omega) | (simp; done)))) (by omega) _⟩
  simp [World.setRow]
  omega
end Go.Proofs.YtapglncgicfjnabGreat
/-! OE -/
namespace Go.Proofs.YtapglncgicfjnabGreat
open Go.RowKit
theorem VA_012 (q : Int) (c : Nat → Int) : (VA q c)[0]? = some (.int .i64 q) ∧ (VA q c)[1]? = some (.int .i64 (pr q)) ∧ (VA q c)[2]? = some (.int .i64 (pl q)) := ⟨rfl, rfl, rfl⟩
/-- An element with places. -/
def ps (c : Nat → Int) (y : Nat) : Bool := decide (0 < c y)
set_option maxHeartbeats 2000000 in
/-- The closure of impl.valueCounts.list. -/
theorem liClo (m i K : Nat) (c : Nat → Int) (w : World) (h : isSz (m : Int) = true) (hi : i < m) (hK : w.heap[K]? = some (vblk (m : Int) c)) :
    Calls Tryz.prog 166 #[elE (m : Int) (i : Int), .pointer (some ⟨K, 0, none⟩)] w fun e w' => e = .returned (.bool (ps c i)) ∧ Below w.heap.size w w' := by
  have hq := isSz_le (m : Int) h
  have hKl : K < w.heap.size := (Array.getElem?_eq_some_iff.1 hK).1
  have HN := Lib.hid (fun w => numberE (m : Int) (i : Int) w h (El.nat hi).1 (El.nat hi).2)
  have HC : Hid (∀ w', Below w.heap.size w w' → w'.cell? ⟨K, 3 + i, none⟩ = some (.int .i64 (c i))) := Lib.hid fun w' hb => (vcells ((hb.block _ hKl).trans hK)).2.2.2.1 i (by omega)
  have HI : Hid (ps c i = decide (0 < c i)) := Lib.hid rfl
  rw [HI.out]
  clear h hK HI
  generalize c i = x at *
  have hi16 : i < 16 := by omega
  go_enter Tryz.func166, Tryz.ntmps166
  go_wp2_with fail
  refine (HN.out _).mono ?_
  rintro e w1 ⟨rfl, hb1⟩
  have hc := HC.out w1 (by (repeat' (first | (with_reducible assumption) | (with_reducible exact Below.refl _ _) | (with_reducible refine below_drewN ?_ _) | (with_reducible refine Below.drew ?_) | (with_reducible refine Below.alloc ?_ ?_ _) | (with_reducible refine Below.setCell ?_ ?_ _) | (with_reducible refine Below.trans ?_ (Below.mono (by assumption) ?_)) | (with_reducible exact Nat.le_refl _) | (with_reducible assumption) | omega | (simp; omega) | (simp; done))))
  obtain ⟨hc1, hf1⟩ := bcell hb1; have hz1 := hb1.size; (try simp at hz1); have HB1 := Lib.hid hb1; clear hb1
  go_wp2
  go_ret
  have hb1 := HB1.out
  exact ⟨rfl, by (repeat' (first | (with_reducible assumption) | (with_reducible exact Below.refl _ _) | (with_reducible refine below_drewN ?_ _) | (with_reducible refine Below.drew ?_) | (with_reducible refine Below.alloc ?_ ?_ _) | (with_reducible refine Below.setCell ?_ ?_ _) | (with_reducible refine Below.trans ?_ (Below.mono (by assumption) ?_)) | (with_reducible exact Nat.le_refl _) | (with_reducible assumption) | omega | (simp; omega) | (simp; done)))⟩
set_option maxHeartbeats 2000000 in
/-- impl.field.numbersWhere at impl.valueCounts.list$1. -/
theorem numbersWhere_li (q : Int) (w : World) (h : isSz q = true) (P : Nat → Bool) (R : Nat) (HX0 : ∀ (n : Nat) w', (n : Int) < q → Below w.heap.size w w' → Calls Tryz.prog 166 #[elE q (n : Int), .pointer (some ⟨R, 0, none⟩)] w' fun e w'' => e = .returned (.bool (P n)) ∧ Below w'.heap.size w' w'') :
    Calls Tryz.prog 145 #[fdE q, .func (.func 166) #[] #[.pointer (some ⟨R, 0, none⟩)]] w fun e w' => ∃ v, e = .returned v ∧ Row w' w.heap.size v (wh P q.toNat) ∧ Below w.heap.size w w' := by
  obtain ⟨i0, hi, iz0, iz1, iz2⟩ := info_parts Tryz.infoI
  have hq := isSz_le q h
  have HE := Lib.hid (fun w => elements_any q w h)
  have HX := Lib.hid HX0; clear HX0
  obtain ⟨m, hm⟩ := Int.eq_ofNat_of_zero_le (show 0 ≤ q by omega)
  subst hm
  rw [Int.toNat_natCast] at HE ⊢
  clear h
  go_enter Tryz.func145, Tryz.ntmps145
  go_wp2_with fail
  refine (HE.out _).mono ?_
  rintro e w3 ⟨g, cp, rfl, hg, hkb, hel, hb3⟩
  simp at hg
  have hgl := hkb.lt
  have hb : Below w.heap.size w w3 := by (repeat' (first | (with_reducible assumption) | (with_reducible exact Below.refl _ _) | (with_reducible refine below_drewN ?_ _) | (with_reducible refine Below.drew ?_) | (with_reducible refine Below.alloc ?_ ?_ _) | (with_reducible refine Below.setCell ?_ ?_ _) | (with_reducible refine Below.trans ?_ (Below.mono (by assumption) ?_)) | (with_reducible exact Nat.le_refl _) | (with_reducible assumption) | omega | (simp; omega) | (simp; done)))
  have HK3 := Lib.hid hkb
  have HL3 := Lib.hid hel
  have HB3 := Lib.hid hb
  have HCR : Hid (∀ wr, Below w3.heap.size w3 wr → Below w.heap.size w wr) := Lib.hid (fun wr hbw => hb.trans (hbw.mono hb.size))
  have hz3 := hb.size
  clear hkb hel hb hb3
  go_wp2_with fail
  go_loopw [5, 11] (fun vo vi wr => ∃ i : Nat, i ≤ m ∧ vi = .int .i64 i ∧ Row wr w3.heap.size vo (wh P i) ∧ Below w3.heap.size w3 wr) (fun _ vi _ => m - (intOf vi).toNat)
  case atStart => exact ⟨0, Nat.zero_le _, rfl, Row.nil _ _, Below.refl _ _⟩
  case round =>
    obtain ⟨i, hi', rfl, hr, hbw⟩ := hrel
    have hz := hbw.size
    have HL := Lib.hid (wh_len P i)
    by_cases hlt : i < m
    · obtain ⟨c0, c1, c2, c3, c4, c5, c6⟩ := (HL3.out.below hbw hgl) i hlt
      have hgr : g < wr.heap.size := by omega
      have hnq : (i : Int) < (m : Int) := by omega
      have HR := Lib.hid hr; clear hr
      have HBW := Lib.hid hbw; clear hbw
      have HX' := Lib.hid (fun w' hb => HX.out i w' hnq hb)
      cases hp : P i with
      | true =>
        rw [hp] at HX'
        have HS := Lib.hid (wh_yes P i hp); clear hp
        go_wp2_with fail
        refine (HX'.out _ ((HCR.out _ HBW.out).alloc (by omega) _)).mono ?_
        rintro e w5 ⟨rfl, hb5⟩
        have hz_hb5 := hb5.size; (try simp at hz_hb5)
        have HR5 := Lib.hid ((HR.out.alloc (eblk (m : Int) (i : Int))).below hb5)
        have HB5 : Hid (Below wr.heap.size wr w5) := Lib.hid (by (repeat' (first | (with_reducible assumption) | (with_reducible exact Below.refl _ _) | (with_reducible refine below_drewN ?_ _) | (with_reducible refine Below.drew ?_) | (with_reducible refine Below.alloc ?_ ?_ _) | (with_reducible refine Below.setCell ?_ ?_ _) | (with_reducible refine Below.trans ?_ (Below.mono (by assumption) ?_)) | (with_reducible exact Nat.le_refl _) | (with_reducible assumption) | omega | (simp; omega) | (simp; done))))
        clear hb5
        go_wp2_with (at_builtin; refine wpList_append_own _ rfl _ _ 24 rfl w3.heap.size 3 i0 (.int .i64 0) 1 8 Tryz.underlying24 hi iz0 iz1 iz2 rfl (by decide) _ _ _ rfl (World.ownsRow.alloc HR5.out _) ⟨w5.heap.size, 0, none⟩ 1 1 [.int .i64 i] rfl rfl ?c1 ?c2 ?c3 ?c4 ?c5 ?_)
        case c1 => exact cell_one_new _ _ _
        case c2 => intro u hu; simp at hu; subst hu; rfl
        case c3 => have := HL.out; unfold maxLen; omega
        case c4 => have := HL.out; omega
        case c5 => simp; omega
        intro v' w6 hown hgrow _
        have HR6 := Lib.hid (Row.appended hown)
        have hb : Below w3.heap.size w3 (w5.alloc (.cells #[.int .i64 i] 3)) := (HBW.out.trans (HB5.out.mono hz)).alloc (by omega) _
        have HB6 := Lib.hid (hb.grown hgrow (by simp; omega) (fun g hg => (HR5.out.lt g hg).1))
        clear hown hgrow hb
        go_wp2
        go_roundw
        case rel => exact ⟨i + 1, by omega, by go_num, by rw [HS.out]; exact HR6.out, HB6.out⟩
        case measure => simp [intOf]; omega
      | false =>
        rw [hp] at HX'
        have HS := Lib.hid (wh_no P i hp); clear hp
        go_wp2_with fail
        refine (HX'.out _ ((HCR.out _ HBW.out).alloc (by omega) _)).mono ?_
        rintro e w5 ⟨rfl, hb5⟩
        have hz_hb5 := hb5.size; (try simp at hz_hb5)
        have HR5 := Lib.hid ((HR.out.alloc (eblk (m : Int) (i : Int))).below hb5)
        have HB5 : Hid (Below wr.heap.size wr w5) := Lib.hid (by (repeat' (first | (with_reducible assumption) | (with_reducible exact Below.refl _ _) | (with_reducible refine below_drewN ?_ _) | (with_reducible refine Below.drew ?_) | (with_reducible refine Below.alloc ?_ ?_ _) | (with_reducible refine Below.setCell ?_ ?_ _) | (with_reducible refine Below.trans ?_ (Below.mono (by assumption) ?_)) | (with_reducible exact Nat.le_refl _) | (with_reducible assumption) | omega | (simp; omega) | (simp; done))))
        clear hb5
        go_wp2
        go_roundw
        case rel => exact ⟨i + 1, by omega, by go_num, by rw [HS.out]; exact HR5.out, HBW.out.trans (HB5.out.mono hz)⟩
        case measure => simp [intOf]; omega
    · obtain rfl : m = i := by omega
      have HR := Lib.hid hr; clear hr
      have HBW := Lib.hid hbw; clear hbw
      go_wp2
      go_ret
      exact ⟨_, rfl, HR.out.mono hz3, HB3.out.trans (HBW.out.mono hz3)⟩


set_option maxHeartbeats 2000000 in
/-- impl.valueCounts.list. -/
theorem listE (m : Nat) (c : Nat → Int) (w : World) (h : isSz (m : Int) = true) :
    Calls Tryz.prog 78 #[.agg (VA (m : Int) c)] w fun e w' => ∃ v, e = .returned v ∧ Row w' w.heap.size v (wh (ps c) m) ∧ Below w.heap.size w w' := by
  have hw := heap_alloc_new w (vblk (m : Int) c)
  obtain ⟨x0, x1, x2, _, _⟩ := vcells hw
  have HNW := Lib.hid (numbersWhere_li (m : Int) (w.alloc (vblk (m : Int) c)) h (ps c) w.heap.size fun n w' hn hb => liClo m n w.heap.size c w' h (by omega) ((hb.block _ (by simp)).trans hw))
  rw [Int.toNat_natCast] at HNW
  clear h hw x0 x1 x2
  rw [show VA (m : Int) c = #[.int .i64 m, .int .i64 (pr m), .int .i64 (pl m), .int .i64 (c 0), .int .i64 (c 1), .int .i64 (c 2), .int .i64 (c 3), .int .i64 (c 4), .int .i64 (c 5), .int .i64 (c 6), .int .i64 (c 7), .int .i64 (c 8), .int .i64 (c 9), .int .i64 (c 10), .int .i64 (c 11), .int .i64 (c 12), .int .i64 (c 13), .int .i64 (c 14), .int .i64 (c 15)] from rfl]
  go_enter Tryz.func78, Tryz.ntmps78
  go_wp2_with fail
  refine HNW.out.mono ?_
  rintro e w1 ⟨v, rfl, hr, hb1⟩
  have HR := Lib.hid hr; clear hr
  have HB1 := Lib.hid hb1; clear hb1
  go_wp2
  go_ret
  have hb1 := HB1.out
  exact ⟨_, rfl, HR.out.mono (by simp), by (repeat' (first | (with_reducible assumption) | (with_reducible exact Below.refl _ _) | (with_reducible refine below_drewN ?_ _) | (with_reducible refine Below.drew ?_) | (with_reducible refine Below.alloc ?_ ?_ _) | (with_reducible refine Below.setCell ?_ ?_ _) | (with_reducible refine Below.trans ?_ (Below.mono (by assumption) ?_)) | (with_reducible exact Nat.le_refl _) | (with_reducible assumption) | omega | (simp; omega) | (simp; done)))⟩
theorem row_slice' {w : World} {B : Nat} {v : Value} {l : List Int} (h : Row w B v l) : ∃ a cap, v = .slice a l.length cap := h.sl.form
/-- '==' on two elements, at their digits. -/
theorem eq_dgp (q x y : Int) (h : isSz q = true) (hx : El q x) (hy : El q y) (w : World) :
    (Op.equalIn 9999 68 (.agg #[.int .i64 (dg q x 0), .int .i64 (dg q x 1), .int .i64 (dg q x 2), .int .i64 (dg q x 3)]) (.agg #[.int .i64 (dg q y 0), .int .i64 (dg q y 1), .int .i64 (dg q y 2), .int .i64 (dg q y 3)])).run Tryz.prog w = .ok (decide (x = y)) w := by
  rw [← dg_inj q x y h hx.1 hx.2 hy.1 hy.2]
  exact eq_arr 68 Tryz.underlying68 _ _ _ _ _ _ _ _ 9997 w
/-- A place of y. -/
def isPl (t : Nat → Int) (y : Int) (i : Nat) : Bool := decide (t i = y)
theorem VB_cells {w : World} {b : Nat} {q : Int} {c : Nat → Int} {v : Value} {T : TypeId} (h : w.heap[b]? = some (.cells (VB q c v) T (0, 0))) :
    w.cell? ⟨b, 0, none⟩ = some (.int .i64 q) ∧ w.rangeAt b 0 [.int .i64 q, .int .i64 (pr q), .int .i64 (pl q)] ∧ w.cell? ⟨b, 19, none⟩ = some v := by
  refine ⟨?_, fun j u hu => ?_, ?_⟩
  · rw [cell_of_row w b _ _ _ _ h]; rfl
  · have hj : j < 3 := (List.getElem?_eq_some_iff.1 hu).1
    rw [cell_of_row w b _ _ _ _ h, Nat.zero_add, ← hu]
    have hc : j = 0 ∨ j = 1 ∨ j = 2 := by omega
    rcases hc with rfl | rfl | rfl
    all_goals rfl
  · rw [cell_of_row w b _ _ _ _ h]; rfl
theorem VB_range {w : World} {b : Nat} {q : Int} {c : Nat → Int} {v : Value} {T : TypeId} (h : w.heap[b]? = some (.cells (VB q c v) T (0, 0))) : w.rangeAt b 0 (VA q c).toList := fun j u hu => by
  have hj : j < 19 := (List.getElem?_eq_some_iff.1 hu).1
  rw [cell_of_row w b _ _ _ _ h, Nat.zero_add, ← hu]
  have hc : j = 0 ∨ j = 1 ∨ j = 2 ∨ j = 3 ∨ j = 4 ∨ j = 5 ∨ j = 6 ∨ j = 7 ∨ j = 8 ∨ j = 9 ∨ j = 10 ∨ j = 11 ∨ j = 12 ∨ j = 13 ∨ j = 14 ∨ j = 15 ∨ j = 16 ∨ j = 17 ∨ j = 18 := by omega
  rcases hc with rfl | rfl | rfl | rfl | rfl | rfl | rfl | rfl | rfl | rfl | rfl | rfl | rfl | rfl | rfl | rfl | rfl | rfl | rfl
  all_goals rfl
/-- The cells of the array of counts. -/
def VC (c : Nat → Int) : List Value := (List.range 16).map fun i => .int .i64 (c i)
theorem VC_get (c : Nat → Int) (i : Nat) (hi : i < 16) : (VC c)[i]? = some (.int .i64 (c i)) := by
  unfold VC
  rw [List.getElem?_map, List.getElem?_range hi]
  rfl
theorem VC_len (c : Nat → Int) : (VC c).length = 16 := by simp [VC]
theorem VC_range {w : World} {b : Nat} {q : Int} {c : Nat → Int} {T : TypeId} (h : w.heap[b]? = some (.cells (VA q c) T (0, 0))) : w.rangeAt b 3 (VC c) := fun j v hv => by
  have hj : j < 16 := by have := (List.getElem?_eq_some_iff.1 hv).1; rw [VC_len] at this; exact this
  rw [VC_get c j hj] at hv
  rw [← hv]
  exact (vcells h).2.2.2.1 j hj
theorem run_index16 (L : List Value) (i : Nat) (x : Int) (w : World) (hi16 : i < 16) (hg : L.toArray[i]? = some (.int .i64 x)) :
    (Instr.index 78 (.agg L.toArray) (.int .i64 (i : Int))).run Tryz.prog w = .ok (.int .i64 x) w := by
  obtain ⟨i0, hi, iz0, iz1, iz2⟩ := info_parts Tryz.infoI
  have h1 : (0 : Int) ≤ i ∧ (i : Int) < (16 : Nat) := by omega
  simp only [List.getElem?_toArray] at hg
  simp [Instr.index, asIntOf, run_underlying Tryz.underlying78, part, Sem.run_bind, sizeOf, typeInfo, hi, iz1, h1, hg, go_sem, hi16]
end Go.Proofs.YtapglncgicfjnabGreat
