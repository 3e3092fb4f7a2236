/- Remainders, common factors and derivatives of polynomials, by numbers. No program here. -/
import Derived.Test.YtljijnanmpajaaaGreatKA
namespace Go.Proofs.YtljijnanmpajaaaGreat
set_option maxRecDepth 100000
theorem El.inv' {q a : Int} (h : isSz q = true) (ha : El q a) : El q (invF q a) := El.pw h ha _
theorem inv_mul' {q a : Int} (h : isSz q = true) (ha : El q a) (h0 : a ≠ 0) : mulF q (invF q a) a = 1 := by
  have := of_decide_eq_true (of_chk1 (f := fun q a => decide (a = 0 ∨ mulF q (invF q a) a = 1)) (by decide +kernel) q a h ha.1 ha.2)
  rcases this with h1 | h1
  · exact absurd h1 h0
  · exact h1
theorem sub_zero' {q a : Int} (h : isSz q = true) (ha : El q a) : subF q a 0 = a :=
  of_decide_eq_true (of_chk1 (f := fun q a => decide (subF q a 0 = a)) (by decide +kernel) q a h ha.1 ha.2)
theorem sub_self' {q a : Int} (h : isSz q = true) (ha : El q a) : subF q a a = 0 :=
  of_decide_eq_true (of_chk1 (f := fun q a => decide (subF q a a = 0)) (by decide +kernel) q a h ha.1 ha.2)
theorem El.sub {q a b : Int} (h : isSz q = true) (ha : El q a) (hb : El q b) : El q (subF q a b) := subF_bd q a b h ha.1 ha.2 hb.1 hb.2
theorem sn_last' {f : Nat → Int} : ∀ n, 0 < sn f n → f (sn f n - 1) ≠ 0
  | 0, h => absurd h (Nat.lt_irrefl 0)
  | n + 1, h => by
    unfold sn at h ⊢
    by_cases e : f n = 0
    · rw [if_pos e] at h ⊢
      exact sn_last' n h
    · rw [if_neg e]
      exact e
/-- What is left behind i of the coefficients of a multiple. -/
def sti (q : Int) (f g : Nat → Int) (o : Nat) (t : Int) (i : Nat) : Nat → Int := fun j => if o ≤ j ∧ j < o + i then subF q (f j) (mulF q t (g (j - o))) else f j
theorem sti_zero (q : Int) (f g : Nat → Int) (o : Nat) (t : Int) : sti q f g o t 0 = f := funext fun j => if_neg (by omega)
theorem sti_at (q : Int) (f g : Nat → Int) (o : Nat) (t : Int) (i : Nat) : sti q f g o t i (o + i) = f (o + i) := if_neg (by omega)
theorem sti_succ (q : Int) (f g : Nat → Int) (o : Nat) (t : Int) (i : Nat) : sti q f g o t (i + 1) = upd (sti q f g o t i) (o + i) (subF q (f (o + i)) (mulF q t (g i))) := by
  funext j
  by_cases e : j = o + i
  · subst e
    rw [upd_at]
    unfold sti
    rw [if_pos (by omega), Nat.add_sub_cancel_left]
  · rw [upd_ne _ _ _ _ e]
    unfold sti
    by_cases hj : o ≤ j ∧ j < o + i
    · rw [if_pos hj, if_pos (by omega)]
    · rw [if_neg hj, if_neg (by omega)]
theorem sti_el {q t : Int} {f g : Nat → Int} (h : isSz q = true) (hf : ∀ i, El q (f i)) (hg : ∀ i, El q (g i)) (ht : El q t) (o i j : Nat) : El q (sti q f g o t i j) := by
  unfold sti
  split
  · exact (hf j).sub h (ht.mul h (hg _))
  · exact hf j
theorem sti_none {q : Int} {f g : Nat → Int} (h : isSz q = true) (hf : ∀ i, El q (f i)) (hg : ∀ i, El q (g i)) (o i : Nat) : sti q f g o 0 i = f := by
  funext j
  unfold sti
  split
  · rw [(mul_zero' h (hg _)).1, sub_zero' h (hf j)]
  · rfl
/-- What is left of n coefficients, with how many. -/
def rmd (q : Int) (g : Nat → Int) (k : Nat) : Nat → (Nat → Int) → (Nat → Int) × Nat
  | 0, f => (f, 0)
  | n + 1, f => if n + 1 < k then (f, n + 1) else rmd q g k n (sti q f g (n + 1 - k) (mulF q (f n) (invF q (g (k - 1)))) k)
def rml (q : Int) (g : Nat → Int) (k n : Nat) (f : Nat → Int) : List Int := fl (rmd q g k n f).1 (sn (rmd q g k n f).1 (rmd q g k n f).2)
theorem rml_go {q : Int} {g f : Nat → Int} {k n : Nat} (hk : k ≤ n + 1) : rml q g k (n + 1) f = rml q g k n (sti q f g (n + 1 - k) (mulF q (f n) (invF q (g (k - 1)))) k) := by
  unfold rml
  rw [rmd, if_neg (by omega)]
theorem rml_end {q : Int} {g f : Nat → Int} {k n : Nat} (hk : n < k) : rml q g k n f = fl f (sn f n) := by
  unfold rml
  cases n with
  | zero => rfl
  | succ n => rw [rmd, if_pos hk]
theorem rml_zero {q : Int} {g f : Nat → Int} {k n : Nat} (h : isSz q = true) (hf : ∀ i, El q (f i)) (hg : ∀ i, El q (g i)) (hz : f n = 0) : rml q g k (n + 1) f = rml q g k n f := by
  by_cases hk : n + 1 < k
  · rw [rml_end hk, rml_end (by omega), show sn f (n + 1) = sn f n from if_pos hz]
  · rw [rml_go (by omega), hz, (mul_zero' h ((hg _).inv' h)).1, sti_none h hf hg]
theorem rml_sn {q : Int} {g f : Nat → Int} {k : Nat} (h : isSz q = true) (hf : ∀ i, El q (f i)) (hg : ∀ i, El q (g i)) : ∀ n, rml q g k (sn f n) f = rml q g k n f
  | 0 => rfl
  | n + 1 => by
    by_cases e : f n = 0
    · rw [show sn f (n + 1) = sn f n from if_pos e, rml_sn h hf hg n, rml_zero h hf hg e]
    · rw [show sn f (n + 1) = n + 1 from if_neg e]
theorem sti_top {q : Int} {g f : Nat → Int} {k n : Nat} (h : isSz q = true) (hf : ∀ i, El q (f i)) (hg : ∀ i, El q (g i)) (h0 : 0 < k) (hk : k ≤ n + 1) (ht : g (k - 1) ≠ 0) :
    sti q f g (n + 1 - k) (mulF q (f n) (invF q (g (k - 1)))) k n = 0 := by
  unfold sti
  rw [if_pos (by omega), show n - (n + 1 - k) = k - 1 by omega, mul_assoc' h (hf n) ((hg _).inv' h) (hg _), inv_mul' h (hg _) ht, (mul_one' h (hf n)).2, sub_self' h (hf n)]
/-- A step that leaves out all zeros at the end. -/
theorem rml_step {q : Int} {g f : Nat → Int} {k n : Nat} (h : isSz q = true) (hf : ∀ i, El q (f i)) (hg : ∀ i, El q (g i)) (h0 : 0 < k) (hk : k ≤ n + 1) (ht : g (k - 1) ≠ 0) :
    rml q g k (sn (sti q f g (n + 1 - k) (mulF q (f n) (invF q (g (k - 1)))) k) (n + 1)) (sti q f g (n + 1 - k) (mulF q (f n) (invF q (g (k - 1)))) k) = rml q g k (n + 1) f ∧
    sn (sti q f g (n + 1 - k) (mulF q (f n) (invF q (g (k - 1)))) k) (n + 1) ≤ n := by
  have hs : ∀ i, El q (sti q f g (n + 1 - k) (mulF q (f n) (invF q (g (k - 1)))) k i) := sti_el h hf hg ((hf n).mul h ((hg _).inv' h)) _ _
  have hz := sti_top h hf hg h0 hk ht
  rw [rml_go hk]
  generalize sti q f g (n + 1 - k) (mulF q (f n) (invF q (g (k - 1)))) k = F at *
  have e : sn F (n + 1) = sn F n := if_pos hz
  rw [e]
  exact ⟨rml_sn h hs hg n, sn_le F n⟩
theorem rmd_el {q : Int} {g : Nat → Int} {k : Nat} (h : isSz q = true) (hg : ∀ i, El q (g i)) : ∀ n f, (∀ i, El q (f i)) → ∀ i, El q ((rmd q g k n f).1 i)
  | 0, _, hf, i => hf i
  | n + 1, f, hf, i => by
    rw [rmd]
    split
    · exact hf i
    · exact rmd_el h hg n _ (sti_el h hf hg ((hf n).mul h ((hg _).inv' h)) _ _) i
theorem rmd_lt {q : Int} {g : Nat → Int} {k : Nat} (h0 : 0 < k) : ∀ n f, (rmd q g k n f).2 < k
  | 0, _ => h0
  | n + 1, f => by
    rw [rmd]
    split
    · assumption
    · exact rmd_lt h0 n _
/-- A list is a polynomial. -/
structure PG (q : Int) (l : List Int) : Prop where
  el : ∀ i, El q (l.getD i 0)
  le : (l.length : Int) ≤ q
  top : 0 < l.length → l.getD (l.length - 1) 0 ≠ 0
theorem fl_out (f : Nat → Int) (n i : Nat) (h : n ≤ i) : (fl f n).getD i 0 = 0 := by
  simp [fl, List.getD, h]
theorem pg_fl {q : Int} {f : Nat → Int} {n : Nat} (h : isSz q = true) (hf : ∀ i, i < n → El q (f i)) (hn : ((sn f n : Nat) : Int) ≤ q) : PG q (fl f (sn f n)) := by
  refine ⟨fun i => ?_, by rw [fl_len]; exact hn, fun h0 => ?_⟩
  · by_cases hi : i < sn f n
    · rw [fl_get _ _ _ hi]
      exact hf i (by have := sn_le f n; omega)
    · rw [fl_out _ _ _ (by omega)]
      exact El.zero h
  · rw [fl_len] at h0 ⊢
    rw [fl_get _ _ _ (by omega)]
    exact sn_last' n h0
abbrev cfs (l : List Int) : Nat → Int := fun i => l.getD i 0
/-- The remainder. -/
def remL (q : Int) (l g : List Int) : List Int := rml q (cfs g) g.length l.length (cfs l)
theorem remL_pg {q : Int} {l g : List Int} (h : isSz q = true) (hl : PG q l) (hg : PG q g) (h0 : 0 < g.length) : PG q (remL q l g) ∧ (remL q l g).length < g.length := by
  have h1 := rmd_lt (q := q) (g := cfs g) h0 l.length (cfs l)
  have h2 := sn_le (rmd q (cfs g) g.length l.length (cfs l)).1 (rmd q (cfs g) g.length l.length (cfs l)).2
  have h3 := hg.le
  refine ⟨pg_fl h (fun i _ => rmd_el h hg.el _ _ hl.el i) (by omega), ?_⟩
  unfold remL rml
  rw [fl_len]
  omega
/-- The last one of remainders that is not 0. -/
def gcl (q : Int) : Nat → List Int → List Int → List Int
  | 0, l, _ => l
  | c + 1, l, g => if g.length = 0 then l else gcl q c g (remL q l g)
theorem gcl_pg {q : Int} (h : isSz q = true) : ∀ c l g, PG q l → PG q g → PG q (gcl q c l g)
  | 0, _, _, hl, _ => hl
  | c + 1, l, g, hl, hg => by
    rw [gcl]
    split
    · exact hl
    · exact gcl_pg h c _ _ hg (remL_pg h hl hg (by omega)).1
theorem gcl_end {q : Int} {c : Nat} {l g : List Int} (h : g.length = 0) : gcl q c l g = l := by
  cases c with
  | zero => rfl
  | succ c => rw [gcl, if_pos h]
theorem gcl_go {q : Int} {c : Nat} {l g : List Int} (h : isSz q = true) (hl : PG q l) (hg : PG q g) (h0 : 0 < g.length) (hc : g.length ≤ c) : ∃ c', (remL q l g).length ≤ c' ∧ gcl q c l g = gcl q c' g (remL q l g) := by
  cases c with
  | zero => omega
  | succ c =>
    have := (remL_pg h hl hg h0).2
    exact ⟨c, by omega, by rw [gcl, if_neg (by omega)]⟩
/-- With the last coefficient 1. -/
def mno (q : Int) (n : Nat) (f : Nat → Int) : Nat → Int := fun i => mulF q (invF q (f (n - 1))) (f i)
theorem mno_el {q : Int} {n : Nat} {f : Nat → Int} (h : isSz q = true) (hf : ∀ i, El q (f i)) (i : Nat) : El q (mno q n f i) := ((hf _).inv' h).mul h (hf i)
theorem mno_top {q : Int} {n : Nat} {f : Nat → Int} (h : isSz q = true) (hf : ∀ i, El q (f i)) (ht : f (n - 1) ≠ 0) : mno q n f (n - 1) = 1 := inv_mul' h (hf _) ht
def mnL (q : Int) (l : List Int) : List Int := fl (mno q l.length (cfs l)) l.length
/-- The greatest common factor. -/
def cmf (q : Int) (l g : List Int) : List Int := mnL q (gcl q g.length l g)
theorem mnL_len (q : Int) (l : List Int) : (mnL q l).length = l.length := fl_len _ _
theorem sn_full {f : Nat → Int} {n : Nat} (h : n = 0 ∨ f (n - 1) ≠ 0) : sn f n = n := by
  cases n with
  | zero => rfl
  | succ n =>
    rcases h with h | h
    · omega
    · exact if_neg h
/-- What is left with a divisor that has the last coefficient 1, in place. -/
theorem mul_mno {q t : Int} {k : Nat} {g : Nat → Int} (h : isSz q = true) (ht : El q t) (hg : ∀ i, El q (g i)) (i : Nat) : mulF q t (mno q k g i) = mulF q (mulF q t (invF q (g (k - 1)))) (g i) :=
  (mul_assoc' h ht ((hg _).inv' h) (hg i)).symm
theorem sti_mno {q t : Int} {k : Nat} {f g : Nat → Int} (h : isSz q = true) (ht : El q t) (hg : ∀ i, El q (g i)) (o i : Nat) : sti q f (mno q k g) o t i = sti q f g o (mulF q t (invF q (g (k - 1)))) i := by
  funext j
  unfold sti
  rw [mul_mno h ht hg]
/-- As many times as told. -/
def tim (q a : Int) : Nat → Int
  | 0 => 0
  | n + 1 => addF q (tim q a n) a
theorem tim_el {q a : Int} (h : isSz q = true) (ha : El q a) : ∀ n, El q (tim q a n)
  | 0 => El.zero h
  | n + 1 => (tim_el h ha n).add h ha
theorem tim_four {q a : Int} (h : isSz q = true) (ha : El q a) : addF q (addF q a a) (addF q a a) = tim q a 4 :=
  of_decide_eq_true (of_chk1 (f := fun q a => decide (addF q (addF q a a) (addF q a a) = tim q a 4)) (by decide +kernel) q a h ha.1 ha.2)
/-- The coefficients of the derivative. -/
def drv (q : Int) (f : Nat → Int) : Nat → Int := fun i => tim q (f (i + 1)) (i + 1)
theorem drv_el {q : Int} {f : Nat → Int} (h : isSz q = true) (hf : ∀ i, El q (f i)) (i : Nat) : El q (drv q f i) := tim_el h (hf _) _
def drvL (q : Int) (l : List Int) : List Int := fl (drv q (cfs l)) (sn (drv q (cfs l)) (l.length - 1))
theorem drvL_pg {q : Int} {l : List Int} (h : isSz q = true) (hl : PG q l) : PG q (drvL q l) ∧ (drvL q l).length ≤ l.length - 1 := by
  have h1 := sn_le (drv q (cfs l)) (l.length - 1)
  have h2 := hl.le
  exact ⟨pg_fl h (fun i _ => drv_el h hl.el i) (by omega), by unfold drvL; rw [fl_len]; exact h1⟩
/-- Reduced ones of few terms. -/
theorem red_short {m n : Nat} {c : Nat → Int} (h : isSz (m : Int) = true) (hc : ∀ i, El (m : Int) (c i)) (hn : n ≤ m) : redn m c n = sn c n ∧ fl (redR m c n) (redn m c n) = fl c (sn c n) := by
  have e1 : ∀ j, redR m c n j = if j < n then c j else 0 := fun j => redR_small m c h hc n hn j
  have e2 : redn m c n = sn c n := by
    unfold redn
    rw [show m = n + (m - n) by omega, sn_zero _ n (m - n) (fun i h1 _ => by rw [show n + (m - n) = m by omega, e1, if_neg (by omega)])]
    exact sn_congr fun i hi => by rw [show n + (m - n) = m by omega, e1, if_pos hi]
  refine ⟨e2, ?_⟩
  rw [e2]
  exact fl_congr fun i hi => by rw [e1, if_pos (by have := sn_le c n; omega)]
end Go.Proofs.YtljijnanmpajaaaGreat
