/- Joined polynomials and powers of the model, by numbers. No program here. -/
import Derived.Test.YthklnfanbegecacHU
namespace Go.Proofs.Ythklnfanbegecac
theorem sn_idem (f : Nat → Int) (n : Nat) : sn f (sn f n) = sn f n := by
  induction n with
  | zero => rfl
  | succ n ih =>
    by_cases e : f n = 0
    · have : sn f (n + 1) = sn f n := by simp only [sn]; rw [if_pos e]
      rw [this, ih]
    · have : sn f (n + 1) = n + 1 := by simp only [sn]; rw [if_neg e]
      rw [this, this]
/-- A polynomial of one coefficient. -/
def one0 (a : Int) : Nat → Int := fun j => if j = 0 then a else 0
/-- Coefficients and how many. -/
abbrev Pol := (Nat → Int) × Nat
/-- A reduced polynomial. -/
structure PolOK (m : Nat) (p : Pol) : Prop where
  el : ∀ i, El (m : Int) (p.1 i)
  le : p.2 ≤ m
  past : ∀ i, p.2 ≤ i → p.1 i = 0
  tr : sn p.1 p.2 = p.2
/-- The product with k terms of g, reduced. -/
def mulP (m : Nat) (p : Pol) (g : Nat → Int) (k : Nat) : Pol := (redR m (cou m p.1 g k p.2) (p.2 + k), redn m (cou m p.1 g k p.2) (p.2 + k))
/-- The sum with a constant. -/
def addP (m : Nat) (p : Pol) (a : Int) : Pol := (pls m p.1 (one0 a), sn (pls m p.1 (one0 a)) (max p.2 1))
theorem one0_el {q a : Int} (h : isSz q = true) (ha : El q a) (i : Nat) : El q (one0 a i) := by
  unfold one0
  split
  · exact ha
  · exact El.zero h
theorem mulP_ok {m k : Nat} {p : Pol} {g : Nat → Int} (h : isSz (m : Int) = true) (hp : PolOK m p) (hg : ∀ i, El m (g i)) : PolOK m (mulP m p g k) :=
  ⟨redR_el m _ h (cou_el h hp.el hg k p.2) _, sn_le _ _, fun i hi => redR_past h _ i hi, sn_idem _ _⟩
theorem addP_ok {m : Nat} {p : Pol} {a : Int} (h : isSz (m : Int) = true) (hp : PolOK m p) (ha : El m a) : PolOK m (addP m p a) := by
  have hq := isSz_le m h
  refine ⟨pls_el h hp.el (one0_el h ha), ?_, fun i hi => ?_, sn_idem _ _⟩
  · have h1 := sn_le (pls m p.1 (one0 a)) (max p.2 1)
    have h2 := hp.le
    show sn (pls m p.1 (one0 a)) (max p.2 1) ≤ m
    omega
  · by_cases hi' : i < max p.2 1
    · exact sn_past hi hi'
    · exact pls_past h hp.past (fun j hj => if_neg (by omega)) (k := 1) (by omega)
theorem mulP_val {m k : Nat} {x : Int} {p : Pol} {g : Nat → Int} (h : isSz (m : Int) = true) (hp : PolOK m p) (hg : ∀ i, El m (g i)) (hx : El m x) : val m (mulP m p g k).1 m x = mulF m (val m p.1 m x) (val m g k x) := by
  show val m (redR m (cou m p.1 g k p.2) (p.2 + k)) m x = _
  rw [val_red h (cou_el h hp.el hg k p.2) hx, val_cou h hp.el hg hx (Nat.le_refl _), val_more h hp.el hx hp.le hp.past]
theorem one0_val {m : Nat} {x a : Int} (h : isSz (m : Int) = true) (ha : El m a) (hx : El m x) : val m (one0 a) m x = a := by
  have hq := isSz_le m h
  rw [val_more (n := 1) h (one0_el h ha) hx (by omega) fun i hi => if_neg (by omega)]
  show addF m 0 (mulF m a 1) = a
  rw [(mul_one' h ha).2, (add_zero' h ha).2]
theorem addP_val {m : Nat} {x a : Int} {p : Pol} (h : isSz (m : Int) = true) (hp : PolOK m p) (ha : El m a) (hx : El m x) : val m (addP m p a).1 m x = addF m (val m p.1 m x) a := by
  show val m (pls m p.1 (one0 a)) m x = _
  rw [val_pls h hp.el (one0_el h ha) hx, one0_val h ha hx]
/-- The model's joined polynomial after s coefficients. -/
def cmp (m : Nat) (f : Nat → Int) (n : Nat) (g : Nat → Int) (k : Nat) : Nat → Pol
  | 0 => (fun _ => 0, 0)
  | s + 1 => addP m (mulP m (cmp m f n g k s) g k) (f (n - 1 - s))
theorem cmp_ok {m n k : Nat} {f g : Nat → Int} (h : isSz (m : Int) = true) (hf : ∀ i, El m (f i)) (hg : ∀ i, El m (g i)) (s : Nat) : PolOK m (cmp m f n g k s) := by
  induction s with
  | zero => exact ⟨fun _ => El.zero h, Nat.zero_le _, fun _ _ => rfl, rfl⟩
  | succ s ih => exact addP_ok h (mulP_ok h ih hg) (hf _)
theorem cmp_val0 {m n k : Nat} {x : Int} {f g : Nat → Int} (h : isSz (m : Int) = true) (hx : El m x) : val m (cmp m f n g k 0).1 m x = 0 := val_none h hx fun _ _ => rfl
theorem cmp_val {m n k : Nat} {x : Int} {f g : Nat → Int} (h : isSz (m : Int) = true) (hf : ∀ i, El m (f i)) (hg : ∀ i, El m (g i)) (hx : El m x) (s : Nat) :
    val m (cmp m f n g k (s + 1)).1 m x = addF m (mulF m (val m (cmp m f n g k s).1 m x) (val m g k x)) (f (n - 1 - s)) := by
  show val m (addP m (mulP m (cmp m f n g k s) g k) (f (n - 1 - s))).1 m x = _
  rw [addP_val h (mulP_ok h (cmp_ok h hf hg s) hg) (hf _) hx, mulP_val h (cmp_ok h hf hg s) hg hx]
/-- The model's power after s rounds. -/
def pwr (m : Nat) (f : Nat → Int) (n : Nat) : Nat → Pol
  | 0 => (one0 1, 1)
  | s + 1 => mulP m (pwr m f n s) f n
theorem pwr_ok {m n : Nat} {f : Nat → Int} (h : isSz (m : Int) = true) (hf : ∀ i, El m (f i)) (s : Nat) : PolOK m (pwr m f n s) := by
  have hq := isSz_le m h
  induction s with
  | zero => exact ⟨one0_el h (El.one h), by show 1 ≤ m; omega, fun i hi => if_neg (by have : 1 ≤ i := hi; omega), rfl⟩
  | succ s ih => exact mulP_ok h ih hf
theorem pwr_val {m n : Nat} {x : Int} {f : Nat → Int} (h : isSz (m : Int) = true) (hf : ∀ i, El m (f i)) (hx : El m x) (s : Nat) : val m (pwr m f n s).1 m x = pw m (val m f n x) s := by
  induction s with
  | zero => exact one0_val h (El.one h) hx
  | succ s ih =>
    show val m (mulP m (pwr m f n s) f n).1 m x = mulF m (pw m (val m f n x) s) (val m f n x)
    rw [mulP_val h (pwr_ok h hf s) hf hx, ih]
end Go.Proofs.Ythklnfanbegecac
