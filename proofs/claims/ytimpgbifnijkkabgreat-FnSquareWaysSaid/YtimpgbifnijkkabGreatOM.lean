/- How many polynomials of a degree have so many values: all of them against those with the coefficient 1 at the end and 0 at the beginning; plain arithmetic. -/
import Derived.Test.YtimpgbifnijkkabGreatOA
namespace Go.Proofs.YtimpgbifnijkkabGreat
/-- Sums over the first numbers. -/
def sg (G : Nat → Nat) : Nat → Nat
  | 0 => 0
  | n + 1 => sg G n + G n
theorem sg_congr {G H : Nat → Nat} : ∀ n, (∀ i, i < n → G i = H i) → sg G n = sg H n := by
  intro n
  induction n with
  | zero => intro _; rfl
  | succ n ih =>
    intro h
    show sg G n + G n = sg H n + H n
    rw [ih fun i hi => h i (by omega), h n (by omega)]
theorem sg_add (G : Nat → Nat) (M : Nat) : ∀ n, sg G (M + n) = sg G M + sg (fun i => G (M + i)) n := by
  intro n
  induction n with
  | zero => rfl
  | succ n ih =>
    show sg G (M + n) + G (M + n) = sg G M + (sg (fun i => G (M + i)) n + G (M + n))
    rw [ih]
    omega
theorem sg_plus (G H : Nat → Nat) : ∀ n, sg (fun i => G i + H i) n = sg G n + sg H n := by
  intro n
  induction n with
  | zero => rfl
  | succ n ih =>
    show sg (fun i => G i + H i) n + (G n + H n) = sg G n + G n + (sg H n + H n)
    rw [ih]
    omega
theorem sg_const (c : Nat) : ∀ n, sg (fun _ => c) n = n * c := by
  intro n
  induction n with
  | zero => simp [sg]
  | succ n ih =>
    show sg (fun _ => c) n + c = (n + 1) * c
    rw [ih, Nat.succ_mul]
theorem sg_hi (G : Nat → Nat) (M : Nat) : ∀ N, sg G (M * N) = sg (fun h => sg (fun n => G (n + M * h)) M) N := by
  intro N
  induction N with
  | zero => rfl
  | succ N ih =>
    rw [Nat.mul_succ, sg_add, ih]
    show _ = sg (fun h => sg (fun n => G (n + M * h)) M) N + sg (fun n => G (n + M * N)) M
    rw [sg_congr (G := fun i => G (M * N + i)) M fun i _ => by rw [Nat.add_comm]]
theorem sg_lo (G : Nat → Nat) (M : Nat) : ∀ N, sg G (M * N) = sg (fun x => sg (fun n => G (x + M * n)) N) M := by
  intro N
  induction N with
  | zero =>
    have : sg (fun _ => 0) M = 0 := by rw [sg_const]; omega
    exact this.symm
  | succ N ih =>
    rw [Nat.mul_succ, sg_add, ih]
    show _ = sg (fun x => sg (fun n => G (x + M * n)) N + G (x + M * N)) M
    rw [sg_plus]
    rw [sg_congr (G := fun i => G (M * N + i)) M fun i _ => by rw [Nat.add_comm]]
theorem sg_sum (G : Nat → Nat) : ∀ n, sg G n = ((List.range n).map G).sum := by
  intro n
  induction n with
  | zero => rfl
  | succ n ih =>
    rw [List.range_succ, List.map_append, List.sum_append, ← ih]
    simp [sg]
theorem sum_perm {l l' : List Nat} (h : l.Perm l') : l.sum = l'.sum := by
  induction h with
  | nil => rfl
  | cons x _ ih => simp [ih]
  | swap x y l => simp; omega
  | trans _ _ h1 h2 => exact h1.trans h2
/-- A change of the first m numbers for one another. -/
structure Chg (m : Nat) (p : Nat → Nat) : Prop where
  perm : ((List.range m).map p).Perm (List.range m)
  lt : ∀ x, x < m → p x < m
  inj : ∀ x y, x < m → y < m → p x = p y → x = y
theorem sg_chg {m : Nat} {p : Nat → Nat} (h : Chg m p) (G : Nat → Nat) : sg (fun y => G (p y)) m = sg G m := by
  rw [sg_sum, sg_sum, ← sum_perm (h.perm.map G), List.map_map]
  rfl
theorem filter_sg (P : Nat → Bool) : ∀ n, ((List.range n).filter P).length = sg (fun y => if P y then 1 else 0) n := by
  intro n
  induction n with
  | zero => rfl
  | succ n ih =>
    rw [List.range_succ, List.filter_append, List.length_append, ih]
    show _ = sg (fun y => if P y then 1 else 0) n + (if P n then 1 else 0)
    cases h : P n <;> simp [h]
theorem oc_sg (t : Nat → Int) (y : Nat) : ∀ n, (∀ i, i < n → 0 ≤ t i) → oc t n y = ((sg (fun i => if t i = (y : Int) then 1 else 0) n : Nat) : Int) := by
  intro n
  induction n with
  | zero => intro _; rfl
  | succ n ih =>
    intro ht
    have h1 := ih fun i hi => ht i (by omega)
    have h2 := ht n (by omega)
    show upd (oc t n) (t n).toNat (oc t n (t n).toNat + 1) y = ((sg (fun i => if t i = (y : Int) then 1 else 0) n + (if t n = (y : Int) then 1 else 0) : Nat) : Int)
    unfold upd
    by_cases e : t n = (y : Int)
    · rw [if_pos (by omega), if_pos e, e, Int.toNat_natCast, h1]
      rfl
    · rw [if_neg (by omega), if_neg e, h1]
      rfl
theorem sg_pos (G : Nat → Nat) : ∀ n, 0 < sg G n ↔ ∃ i, i < n ∧ 0 < G i := by
  intro n
  induction n with
  | zero => simp [sg]
  | succ n ih =>
    show 0 < sg G n + G n ↔ _
    constructor
    · intro h
      by_cases h0 : 0 < sg G n
      · obtain ⟨i, hi, hg⟩ := ih.1 h0
        exact ⟨i, by omega, hg⟩
      · exact ⟨n, by omega, by omega⟩
    · rintro ⟨i, hi, hg⟩
      by_cases e : i = n
      · subst e; omega
      · have := ih.2 ⟨i, by omega, hg⟩
        omega
theorem mt_iff {t : Nat → Int} {n y : Nat} (ht : ∀ i, i < n → 0 ≤ t i) : mt t n y = true ↔ ∃ i, i < n ∧ t i = (y : Int) := by
  unfold mt
  rw [decide_eq_true_iff, oc_sg t y n ht]
  have := sg_pos (fun i => if t i = (y : Int) then 1 else 0) n
  constructor
  · intro h
    obtain ⟨i, hi, hg⟩ := this.1 (by omega)
    refine ⟨i, hi, ?_⟩
    by_cases e : t i = (y : Int)
    · exact e
    · rw [if_neg e] at hg; omega
  · rintro ⟨i, hi, e⟩
    have := this.2 ⟨i, hi, by rw [if_pos e]; omega⟩
    omega
/-- How many values. -/
def nv (m : Nat) (t : Nat → Int) : Nat := ((List.range m).filter (mt t m)).length
theorem nv_le (m : Nat) (t : Nat → Int) : nv m t ≤ m := by
  have := List.length_filter_le (mt t m) (List.range m)
  rw [List.length_range] at this
  exact this
theorem oc_congr {t t' : Nat → Int} : ∀ n, (∀ i, i < n → t i = t' i) → oc t n = oc t' n := by
  intro n
  induction n with
  | zero => intro _; rfl
  | succ n ih =>
    intro h
    show upd (oc t n) (t n).toNat (oc t n (t n).toNat + 1) = upd (oc t' n) (t' n).toNat (oc t' n (t' n).toNat + 1)
    rw [ih fun i hi => h i (by omega), h n (by omega)]
theorem nv_congr {m : Nat} {t t' : Nat → Int} (h : ∀ i, i < m → t i = t' i) : nv m t = nv m t' := by
  unfold nv mt
  rw [oc_congr m h]
theorem nv_chg {m : Nat} {p : Nat → Nat} (hp : Chg m p) {t t' : Nat → Int} (ht : ∀ i, i < m → El (m : Int) (t i)) (h : ∀ i, i < m → t' i = (p (t i).toNat : Nat)) : nv m t' = nv m t := by
  unfold nv
  rw [filter_sg, filter_sg, ← sg_chg hp]
  refine sg_congr m fun y hy => ?_
  have h1 : ∀ i, i < m → 0 ≤ t' i := fun i hi => by rw [h i hi]; omega
  have h2 : ∀ i, i < m → 0 ≤ t i := fun i hi => (ht i hi).1
  have e : mt t' m (p y) = mt t m y := by
    rw [Bool.eq_iff_iff, mt_iff h1, mt_iff h2]
    constructor
    · rintro ⟨i, hi, e⟩
      rw [h i hi] at e
      have hti := ht i hi
      have h3 := hti.1
      have h4 := hti.2
      have := hp.inj _ _ (show (t i).toNat < m by omega) hy (by omega)
      exact ⟨i, hi, by omega⟩
    · rintro ⟨i, hi, e⟩
      exact ⟨i, hi, by rw [h i hi, e, Int.toNat_natCast]⟩
  rw [e]
/-- Products with an element other than 0, sums with an element: changes. -/
def chgOK (q : Nat) (p : Nat → Nat) : Bool := ((List.range q).map p).isPerm (List.range q) && ((List.range q).all fun x => decide (p x < q) && (List.range q).all fun y => !(p x == p y) || x == y)
theorem chg_of {q : Nat} {p : Nat → Nat} (h : chgOK q p = true) : Chg q p := by
  simp only [chgOK, Bool.and_eq_true, List.all_eq_true, List.mem_range, decide_eq_true_iff] at h
  refine ⟨List.isPerm_iff.1 h.1, fun x hx => (h.2 x hx).1, fun x y hx hy e => ?_⟩
  have := (h.2 x hx).2 y hy
  rw [e] at this
  simpa using this
def chgT : Bool := sizes.all fun q => (List.range q.toNat).all fun a => (a == 0 || chgOK q.toNat fun x => (mulF q (a : Int) (x : Int)).toNat) && chgOK q.toNat fun x => (addF q (a : Int) (x : Int)).toNat
set_option maxRecDepth 100000 in
theorem chgT_ok : chgT = true := by decide +kernel
theorem chg_both {m a : Nat} (h : isSz (m : Int) = true) (ha : a < m) : (a ≠ 0 → Chg m fun x => (mulF (m : Int) (a : Int) (x : Int)).toNat) ∧ Chg m fun x => (addF (m : Int) (a : Int) (x : Int)).toNat := by
  have h1 := chgT_ok
  simp only [chgT, List.all_eq_true, List.mem_range, Bool.and_eq_true, Bool.or_eq_true, beq_iff_eq] at h1
  have h2 := h1 (m : Int) (by unfold isSz at h; exact List.elem_iff.1 h) a (by omega)
  exact ⟨fun hn => chg_of (by rcases h2.1 with h3 | h3; · exact absurd h3 hn
                              · exact h3), chg_of h2.2⟩
theorem nv_mul {m a : Nat} (h : isSz (m : Int) = true) (ha : a < m) (h0 : a ≠ 0) {t t' : Nat → Int} (ht : ∀ i, i < m → El (m : Int) (t i)) (e : ∀ i, i < m → t' i = mulF (m : Int) (a : Int) (t i)) : nv m t' = nv m t := by
  refine nv_chg ((chg_both h ha).1 h0) ht fun i hi => ?_
  have h1 := (ht i hi).1
  have h2 := El.mul h (El.nat ha) (ht i hi)
  rw [e i hi, Int.toNat_of_nonneg h1, Int.toNat_of_nonneg h2.1]
theorem nv_add {m a : Nat} (h : isSz (m : Int) = true) (ha : a < m) {t t' : Nat → Int} (ht : ∀ i, i < m → El (m : Int) (t i)) (e : ∀ i, i < m → t' i = addF (m : Int) (a : Int) (t i)) : nv m t' = nv m t := by
  refine nv_chg (chg_both h ha).2 ht fun i hi => ?_
  have h1 := (ht i hi).1
  have h2 := El.add h (El.nat ha) (ht i hi)
  rw [e i hi, Int.toNat_of_nonneg h1, Int.toNat_of_nonneg h2.1]
/-- The digits of a number. -/
def dgt (m n : Nat) : Nat → Int := fun i => ((n / m ^ i % m : Nat) : Int)
def csn (x : Int) (f : Nat → Int) : Nat → Int := fun i => if i = 0 then x else f (i - 1)
def scl (m a : Nat) (f : Nat → Int) : Nat → Int := fun i => mulF (m : Int) (a : Int) (f i)
theorem dgt_el {m n : Nat} (hm : 1 ≤ m) (i : Nat) : El (m : Int) (dgt m n i) := by
  have := Nat.mod_lt (n / m ^ i) (show 0 < m by omega)
  unfold dgt El
  omega
theorem dgt_cons {m x n : Nat} (hx : x < m) : dgt m (x + m * n) = csn (x : Int) (dgt m n) := by
  funext i
  unfold csn dgt
  by_cases hi : i = 0
  · subst hi
    rw [if_pos rfl, Nat.pow_zero, Nat.div_one, Nat.add_mul_mod_self_left, Nat.mod_eq_of_lt hx]
  · obtain ⟨j, rfl⟩ : ∃ j, i = j + 1 := ⟨i - 1, by omega⟩
    rw [if_neg hi, Nat.add_sub_cancel, Nat.pow_succ, Nat.mul_comm (m ^ j) m, ← Nat.div_div_eq_div_mul, Nat.add_mul_div_left _ _ (show 0 < m by omega), Nat.div_eq_of_lt hx, Nat.zero_add]
/-- Sums over all digits. -/
def rs (m d : Nat) (H : (Nat → Int) → Nat) : Nat := sg (fun n => H (dgt m n)) (m ^ d)
theorem rs_congr {m d : Nat} {H H' : (Nat → Int) → Nat} (h : ∀ n, H (dgt m n) = H' (dgt m n)) : rs m d H = rs m d H' := sg_congr _ fun i _ => h i
theorem rs_succ (m d : Nat) (H : (Nat → Int) → Nat) : rs m (d + 1) H = sg (fun x => rs m d fun f => H (csn (x : Int) f)) m := by
  unfold rs
  rw [Nat.pow_succ, Nat.mul_comm, sg_lo]
  refine sg_congr m fun x hx => sg_congr _ fun n _ => ?_
  rw [dgt_cons hx]
theorem scl_cons (m a x : Nat) (h : isSz (m : Int) = true) (ha : a < m) (hx : x < m) (f : Nat → Int) : scl m a (csn (x : Int) f) = csn (((mulF (m : Int) (a : Int) (x : Int)).toNat : Nat) : Int) (scl m a f) := by
  funext i
  by_cases hi : i = 0
  · subst hi
    show mulF (m : Int) (a : Int) (x : Int) = (((mulF (m : Int) (a : Int) (x : Int)).toNat : Nat) : Int)
    rw [Int.toNat_of_nonneg (El.mul h (El.nat ha) (El.nat hx)).1]
  · show mulF (m : Int) (a : Int) (if i = 0 then (x : Int) else f (i - 1)) = if i = 0 then _ else mulF (m : Int) (a : Int) (f (i - 1))
    rw [if_neg hi, if_neg hi]
theorem rs_scl {m a : Nat} (h : isSz (m : Int) = true) (ha : a < m) (h0 : a ≠ 0) : ∀ d (H : (Nat → Int) → Nat), rs m d (fun f => H (scl m a f)) = rs m d H := by
  intro d
  induction d with
  | zero =>
    intro H
    have e : scl m a (dgt m 0) = dgt m 0 := by
      funext i
      unfold scl dgt
      rw [Nat.zero_div, Nat.zero_mod]
      exact (mul_zero' h (El.nat ha)).2
    show 0 + H (scl m a (dgt m 0)) = 0 + H (dgt m 0)
    rw [e]
  | succ d ih =>
    intro H
    rw [rs_succ, rs_succ]
    rw [← sg_chg ((chg_both h ha).1 h0) (fun x => rs m d fun f => H (csn (x : Int) f))]
    refine sg_congr m fun x hx => ?_
    rw [← ih (fun f => H (csn (((mulF (m : Int) (a : Int) (x : Int)).toNat : Nat) : Int) f))]
    refine rs_congr fun n => ?_
    rw [scl_cons m a x h ha hx]
/-- A last coefficient. -/
def topF (d : Nat) (a : Int) (f : Nat → Int) : Nat → Int := fun i => if i < d then f i else if i = d then a else 0
theorem topF_el {m d : Nat} {a : Int} {f : Nat → Int} (h : isSz (m : Int) = true) (ha : El (m : Int) a) (hf : ∀ i, El (m : Int) (f i)) (i : Nat) : El (m : Int) (topF d a f i) := by
  unfold topF
  split
  · exact hf i
  · split
    · exact ha
    · exact El.zero h
/-- The table of values. -/
def vt (m d : Nat) (a : Int) (f : Nat → Int) : Nat → Int := fun x => val (m : Int) (topF d a f) (d + 1) (x : Int)
theorem vt_el {m d : Nat} {a : Int} {f : Nat → Int} (h : isSz (m : Int) = true) (ha : El (m : Int) a) (hf : ∀ i, El (m : Int) (f i)) (x : Nat) (hx : x < m) : El (m : Int) (vt m d a f x) := val_el h (topF_el h ha hf) (El.nat hx) _
theorem vt_scl {m d a : Nat} {f : Nat → Int} (h : isSz (m : Int) = true) (ha : a < m) (hf : ∀ i, El (m : Int) (f i)) (x : Nat) (hx : x < m) : vt m d (a : Int) (scl m a f) x = mulF (m : Int) (a : Int) (vt m d 1 f x) := by
  have hel := topF_el (d := d) h (El.one h) hf
  unfold vt val
  rw [← lsum_mul h (El.nat ha) fun i _ => (hel i).mul h (El.pw h (El.nat hx) i)]
  refine lsum_congr fun i _ => ?_
  rw [← mul_assoc' h (El.nat ha) (hel i) (El.pw h (El.nat hx) i)]
  congr 1
  unfold topF scl
  split
  · rfl
  · split
    · exact (mul_one' h (El.nat ha)).2.symm
    · exact (mul_zero' h (El.nat ha)).2.symm
theorem vt_cons {m d x : Nat} {f : Nat → Int} (h : isSz (m : Int) = true) (hx : x < m) (hf : ∀ i, El (m : Int) (f i)) (y : Nat) (hy : y < m) : vt m (d + 1) 1 (csn (x : Int) f) y = addF (m : Int) (x : Int) (vt m (d + 1) 1 (csn 0 f) y) := by
  have hc : ∀ c, El (m : Int) c → ∀ i, El (m : Int) (csn c f i) := fun c hc i => by
    unfold csn
    split
    · exact hc
    · exact hf _
  have h1 := topF_el (d := d + 1) h (El.one h) (hc _ (El.nat hx))
  have h2 := topF_el (d := d + 1) h (El.one h) (hc _ (El.zero h))
  have hp := fun i => El.pw h (El.nat hy) i
  unfold vt val
  rw [lsum_front h fun i _ => (h1 i).mul h (hp i), lsum_front h fun i _ => (h2 i).mul h (hp i)]
  have e0 : ∀ c, topF (d + 1) 1 (csn c f) 0 = c := fun c => by simp [topF, csn]
  have e1 : ∀ i, topF (d + 1) 1 (csn (x : Int) f) (i + 1) = topF (d + 1) 1 (csn 0 f) (i + 1) := fun i => by simp [topF, csn]
  simp only [e0, e1]
  rw [show pw (m : Int) (y : Int) 0 = 1 from rfl, (mul_one' h (El.nat hx)).2, (mul_one' h (El.zero h)).2, (add_zero' h (lsum_el h fun i _ => (h2 (i + 1)).mul h (hp (i + 1)))).2]
/-- How many of all polynomials of a degree have k values. -/
def allV (m d k : Nat) : Nat := sg (fun n => if nv m (vt m d ((1 + n / m ^ d : Nat) : Int) (dgt m n)) = k then 1 else 0) (m ^ d * (m - 1))
def plainV (m d k : Nat) : Nat := sg (fun j => if nv m (vt m d 1 (dgt m (m * j))) = k then 1 else 0) (m ^ (d - 1))
theorem topF_low {d : Nat} {a : Int} {f g : Nat → Int} (h : ∀ i, i < d → f i = g i) : topF d a f = topF d a g := by
  funext i
  unfold topF
  split
  · exact h i (by assumption)
  · rfl
theorem dgt_low {m d n hi i : Nat} (hm : 1 ≤ m) (h : i < d) : dgt m (n + m ^ d * hi) i = dgt m n i := by
  unfold dgt
  have e : m ^ d = m ^ i * (m * m ^ (d - i - 1)) := by
    rw [← Nat.mul_assoc, ← Nat.pow_succ, ← Nat.pow_add]
    congr 1
    omega
  rw [e, Nat.mul_assoc, Nat.add_mul_div_left _ _ (Nat.pow_pos (by omega)), Nat.mul_assoc, Nat.add_mul_mod_self_left]
theorem all_plain {m d k : Nat} (h : isSz (m : Int) = true) (hd : 1 ≤ d) : allV m d k = (m - 1) * (m * plainV m d k) := by
  have hq := isSz_le (m : Int) h
  have hm : 2 ≤ m := by omega
  have hde : ∀ n i, El (m : Int) (dgt m n i) := fun n i => dgt_el (by omega) i
  unfold allV
  rw [sg_hi]
  have h1 : ∀ hi, hi < m - 1 → sg (fun n => if nv m (vt m d ((1 + (n + m ^ d * hi) / m ^ d : Nat) : Int) (dgt m (n + m ^ d * hi))) = k then 1 else 0) (m ^ d) = rs m d (fun f => if nv m (vt m d 1 f) = k then 1 else 0) := fun hi hhi => by
    have ha : 1 + hi < m := by omega
    have h2 : rs m d (fun f => if nv m (vt m d ((1 + hi : Nat) : Int) (scl m (1 + hi) f)) = k then 1 else 0) = rs m d (fun f => if nv m (vt m d ((1 + hi : Nat) : Int) f) = k then 1 else 0) := rs_scl h ha (by omega) d (fun f => if nv m (vt m d ((1 + hi : Nat) : Int) f) = k then 1 else 0)
    have h3 : rs m d (fun f => if nv m (vt m d ((1 + hi : Nat) : Int) (scl m (1 + hi) f)) = k then 1 else 0) = rs m d (fun f => if nv m (vt m d 1 f) = k then 1 else 0) := rs_congr fun n => by
      rw [nv_mul h ha (by omega) (fun i hi => vt_el h (El.one h) (hde n) i hi) fun i hi => vt_scl h ha (hde n) i hi]
    rw [← h3, h2]
    refine sg_congr _ fun n hn => ?_
    have e1 : (n + m ^ d * hi) / m ^ d = hi := by rw [Nat.add_mul_div_left _ _ (Nat.pow_pos (by omega)), Nat.div_eq_of_lt hn, Nat.zero_add]
    have e2 : vt m d ((1 + hi : Nat) : Int) (dgt m (n + m ^ d * hi)) = vt m d ((1 + hi : Nat) : Int) (dgt m n) := by
      unfold vt
      rw [topF_low fun i hi => dgt_low (by omega) hi]
    rw [e1, e2]
  rw [sg_congr _ h1, sg_const]
  congr 1
  obtain ⟨e, rfl⟩ : ∃ e, d = e + 1 := ⟨d - 1, by omega⟩
  rw [rs_succ]
  have h2 : ∀ x, x < m → rs m e (fun f => if nv m (vt m (e + 1) 1 (csn (x : Int) f)) = k then 1 else 0) = plainV m (e + 1) k := fun x hx => by
    unfold plainV
    rw [Nat.add_sub_cancel]
    refine sg_congr _ fun n _ => ?_
    have e1 : dgt m (m * n) = csn 0 (dgt m n) := by
      have := dgt_cons (m := m) (x := 0) (n := n) (by omega)
      rw [Nat.zero_add] at this
      exact this
    have hz : ∀ i, El (m : Int) (csn 0 (dgt m n) i) := fun i => by
      unfold csn
      by_cases hi : i = 0
      · rw [if_pos hi]; exact El.zero h
      · rw [if_neg hi]; exact hde n _
    have e2 : nv m (vt m (e + 1) 1 (csn (x : Int) (dgt m n))) = nv m (vt m (e + 1) 1 (csn 0 (dgt m n))) := nv_add h hx (fun i hi => vt_el h (El.one h) hz i hi) fun i hi => vt_cons h hx (hde n) i hi
    show (if nv m (vt m (e + 1) 1 (csn (x : Int) (dgt m n))) = k then 1 else 0) = (if nv m (vt m (e + 1) 1 (dgt m (m * n))) = k then 1 else 0)
    rw [e2, e1]
  rw [sg_congr _ h2, sg_const]
/-- Degree 0: each constant other than 0 has one value. -/
theorem nv_const {m a : Nat} (ha : a < m) {t : Nat → Int} (e : ∀ i, i < m → t i = (a : Int)) : nv m t = 1 := by
  have h0 : ∀ i, i < m → 0 ≤ t i := fun i hi => by rw [e i hi]; omega
  unfold nv
  have : ∀ y, y < m → mt t m y = decide (y = a) := fun y hy => by
    rw [Bool.eq_iff_iff, mt_iff h0, decide_eq_true_iff]
    constructor
    · rintro ⟨i, hi, h⟩
      rw [e i hi] at h
      omega
    · rintro rfl
      exact ⟨y, hy, e y hy⟩
  rw [filter_sg, sg_congr m fun y hy => by rw [this y hy]]
  have h1 : ∀ n, sg (fun y => if decide (y = a) = true then 1 else 0) n = if a < n then 1 else 0 := by
    intro n
    induction n with
    | zero => rfl
    | succ n ih =>
      show sg (fun y => if decide (y = a) = true then 1 else 0) n + (if decide (n = a) = true then 1 else 0) = _
      rw [ih]
      by_cases h2 : n = a
      · rw [if_neg (by omega), if_pos (by simpa using h2), if_pos (by omega)]
      · rw [if_neg (c := decide (n = a) = true) (by simpa using h2)]
        by_cases h3 : a < n
        · rw [if_pos h3, if_pos (by omega)]
        · rw [if_neg h3, if_neg (by omega)]
  rw [h1, if_pos ha]
end Go.Proofs.YtimpgbifnijkkabGreat
