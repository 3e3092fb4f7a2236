/- Products, multiples and sums of polynomials, by numbers. No program here. -/
import Derived.Test.YthklnfanbegecacHA
namespace Go.Proofs.Ythklnfanbegecac
set_option maxRecDepth 100000
theorem mul_zero' {q a : Int} (h : isSz q = true) (ha : El q a) : mulF q 0 a = 0 ∧ mulF q a 0 = 0 := ⟨(mulF_one q a h ha.1 ha.2).2.2.1, (mulF_one q a h ha.1 ha.2).2.2.2⟩
theorem redR_congr {q : Nat} {c d : Nat → Int} {n : Nat} (hcd : ∀ i, i < n → c i = d i) : redR q c n = redR q d n := by
  induction n with
  | zero => rfl
  | succ n ih => simp only [redR]; rw [ih fun i hi => hcd i (by omega), hcd n (Nat.lt_succ_self n)]
theorem redR_tail {q : Nat} {c : Nat → Int} {n : Nat} (h : isSz (q : Int) = true) (hc : ∀ i, El q (c i)) (h0 : c n = 0) : redR q c (n + 1) = redR q c n := by
  funext j
  simp only [redR]
  by_cases e : j = idx q n
  · subst e
    rw [upd_at, h0, (add_zero' h (redR_el q c h hc n _)).1]
  · rw [upd_ne _ _ _ _ e]
theorem redR_none {q : Nat} (h : isSz (q : Int) = true) (n : Nat) : redR q (fun _ => 0) n = fun _ => 0 := by
  induction n with
  | zero => rfl
  | succ n ih => rw [redR_tail h (fun _ => El.zero h) rfl, ih]
theorem redR_far {q : Nat} {c : Nat → Int} (h : isSz (q : Int) = true) (n j : Nat) (hj : q ≤ j) : redR q c n j = 0 := by
  have hq := isSz_le q h
  induction n with
  | zero => rfl
  | succ n ih =>
    simp only [redR]
    have := idx_lt q n (by omega)
    rw [upd_ne _ _ _ _ (by omega), ih]
theorem sn_past {f : Nat → Int} {n i : Nat} (h1 : sn f n ≤ i) (h2 : i < n) : f i = 0 := by
  induction n with
  | zero => omega
  | succ n ih =>
    simp only [sn] at h1
    by_cases e : f n = 0
    · rw [if_pos e] at h1
      by_cases hi : i = n
      · rw [hi, e]
      · exact ih h1 (by omega)
    · rw [if_neg e] at h1
      omega
theorem redR_past {q : Nat} {c : Nat → Int} (h : isSz (q : Int) = true) (n j : Nat) (hj : redn q c n ≤ j) : redR q c n j = 0 := by
  by_cases hq : q ≤ j
  · exact redR_far h n j hq
  · exact sn_past hj (by omega)
/-- A row of a product: the first terms of f i times g, added from the place i on. -/
def cin (q : Int) (f g : Nat → Int) (i : Nat) (c : Nat → Int) : Nat → Nat → Int
  | 0 => c
  | j + 1 => upd (cin q f g i c j) (i + j) (addF q (cin q f g i c j (i + j)) (mulF q (f i) (g j)))
/-- The first rows of a product of f and the first k terms of g. -/
def cou (q : Int) (f g : Nat → Int) (k : Nat) : Nat → Nat → Int
  | 0 => fun _ => 0
  | i + 1 => cin q f g i (cou q f g k i) k
theorem cin_el {q : Int} {f g c : Nat → Int} (h : isSz q = true) (hf : ∀ i, El q (f i)) (hg : ∀ i, El q (g i)) (hc : ∀ i, El q (c i)) (i k j : Nat) : El q (cin q f g i c k j) := by
  induction k generalizing j with
  | zero => exact hc j
  | succ k ih =>
    simp only [cin, upd]
    split
    · exact (ih _).add h ((hf i).mul h (hg k))
    · exact ih j
theorem cou_el {q : Int} {f g : Nat → Int} (h : isSz q = true) (hf : ∀ i, El q (f i)) (hg : ∀ i, El q (g i)) (k n j : Nat) : El q (cou q f g k n j) := by
  induction n generalizing j with
  | zero => exact El.zero h
  | succ n ih => exact cin_el h hf hg (fun i => ih i) n k j
theorem cou_none (q : Int) (f g : Nat → Int) (n : Nat) : cou q f g 0 n = fun _ => 0 := by
  induction n with
  | zero => rfl
  | succ n ih => exact ih
theorem cou_one {q a : Int} {f : Nat → Int} (h : isSz q = true) (hf : ∀ i, El q (f i)) (ha : El q a) (n j : Nat) : cou q f (fun _ => a) 1 n j = if j < n then mulF q (f j) a else 0 := by
  induction n generalizing j with
  | zero => rfl
  | succ n ih =>
    show upd (cou q f (fun _ => a) 1 n) (n + 0) (addF q (cou q f (fun _ => a) 1 n (n + 0)) (mulF q (f n) a)) j = _
    rw [Nat.add_zero]
    by_cases e : j = n
    · subst e
      rw [upd_at, ih, if_neg (Nat.lt_irrefl _), if_pos (Nat.lt_succ_self _), (add_zero' h ((hf _).mul h ha)).2]
    · rw [upd_ne _ _ _ _ e, ih]
      by_cases hj : j < n
      · rw [if_pos hj, if_pos (by omega)]
      · rw [if_neg hj, if_neg (by omega)]
/-- The product with a constant is the multiple. -/
theorem scale_same {m : Nat} {a : Int} {f : Nat → Int} (h : isSz (m : Int) = true) (hf : ∀ i, El m (f i)) (ha : El m a) (n : Nat) :
    redR m (cou m f (fun _ => a) (sn (fun _ => a) 1) n) (n + sn (fun _ => a) 1) = redR m (fun i => mulF m a (f i)) n := by
  by_cases h0 : a = 0
  · subst h0
    have e : sn (fun _ => (0 : Int)) 1 = 0 := rfl
    rw [e, cou_none, Nat.add_zero, show (fun i => mulF m 0 (f i)) = fun _ => 0 from funext fun i => (mul_zero' h (hf i)).1]
  · have e : sn (fun _ => a) 1 = 1 := by simp [sn, h0]
    rw [e, redR_tail h (cou_el h hf (fun _ => ha) 1 n) (by rw [cou_one h hf ha, if_neg (Nat.lt_irrefl _)])]
    refine redR_congr fun i hi => ?_
    rw [cou_one h hf ha, if_pos hi, mul_comm' h (hf i) ha]
/-- A sum, place by place. -/
def pls (q : Int) (f g : Nat → Int) : Nat → Int := fun i => addF q (f i) (g i)
/-- The model's sum after i places of g. -/
def plI (q : Int) (f g : Nat → Int) (i : Nat) : Nat → Int := fun j => if j < i then addF q (f j) (g j) else f j
theorem plI_step (q : Int) (f g : Nat → Int) (i : Nat) : plI q f g (i + 1) = upd (plI q f g i) i (addF q (plI q f g i i) (g i)) := by
  funext j
  by_cases e : j = i
  · subst e
    rw [upd_at]
    simp [plI]
  · rw [upd_ne _ _ _ _ e]
    unfold plI
    by_cases hj : j < i
    · rw [if_pos hj, if_pos (by omega)]
    · rw [if_neg hj, if_neg (by omega)]
theorem plI_all {q : Int} {f g : Nat → Int} (h : isSz q = true) (hf : ∀ i, El q (f i)) (k : Nat) (hg : ∀ i, k ≤ i → g i = 0) : plI q f g k = pls q f g := by
  funext j
  unfold plI pls
  by_cases hj : j < k
  · rw [if_pos hj]
  · rw [if_neg hj, hg j (by omega), (add_zero' h (hf j)).1]
theorem pls_el {q : Int} {f g : Nat → Int} (h : isSz q = true) (hf : ∀ i, El q (f i)) (hg : ∀ i, El q (g i)) (i : Nat) : El q (pls q f g i) := (hf i).add h (hg i)
theorem pls_past {q : Int} {f g : Nat → Int} (h : isSz q = true) {n k i : Nat} (hf : ∀ i, n ≤ i → f i = 0) (hg : ∀ i, k ≤ i → g i = 0) (hi : max n k ≤ i) : pls q f g i = 0 := by
  unfold pls
  rw [hf i (by omega), hg i (by omega), (add_zero' h (El.zero h)).1]
/-- The program's sum of q places, reduced, is the model's. -/
theorem plus_same {m : Nat} {f g : Nat → Int} (h : isSz (m : Int) = true) (hf : ∀ i, El m (f i)) (hg : ∀ i, El m (g i)) {n k : Nat} (hn : n ≤ m) (hk : k ≤ m) (zf : ∀ i, n ≤ i → f i = 0) (zg : ∀ i, k ≤ i → g i = 0) :
    fl (redR m (pls m f g) m) (redn m (pls m f g) m) = fl (pls m f g) (sn (pls m f g) (max n k)) := by
  have hs : ∀ j, j < m → redR m (pls m f g) m j = pls m f g j := fun j hj => by
    rw [redR_small m _ h (pls_el h hf hg) m (Nat.le_refl _), if_pos hj]
  have e : redn m (pls m f g) m = sn (pls m f g) (max n k) := by
    unfold redn
    rw [sn_congr hs]
    have := sn_zero (pls m f g) (max n k) (m - max n k) fun i h1 _ => pls_past h zf zg h1
    rwa [show max n k + (m - max n k) = m by omega] at this
  rw [e]
  refine fl_congr fun i hi => hs i ?_
  have := sn_le (pls m f g) (max n k)
  omega
end Go.Proofs.Ythklnfanbegecac
