/- Equations of sums, products and differences in the small fields, decided by expanding them. No program here. -/
import Derived.Test.YtljijnanmpajaaaGreatKA
namespace Go.Proofs.YtljijnanmpajaaaGreat
/-- Expressions. -/
inductive RE where
  | x (i : Nat)
  | zero
  | one
  | add (a b : RE)
  | mul (a b : RE)
  | neg (a : RE)
instance : Add RE := ⟨RE.add⟩
instance : Mul RE := ⟨RE.mul⟩
instance : Neg RE := ⟨RE.neg⟩
/-- Their values. -/
def RE.ev (q : Int) (r : Nat → Int) : RE → Int
  | .x i => r i
  | .zero => 0
  | .one => 1
  | .add a b => addF q (a.ev q r) (b.ev q r)
  | .mul a b => mulF q (a.ev q r) (b.ev q r)
  | .neg a => subF q 0 (a.ev q r)
theorem RE.ev_el {q : Int} {r : Nat → Int} (h : isSz q = true) (hr : ∀ i, El q (r i)) : ∀ e : RE, El q (e.ev q r)
  | .x i => hr i
  | .zero => El.zero h
  | .one => El.one h
  | .add a b => El.add h (a.ev_el h hr) (b.ev_el h hr)
  | .mul a b => El.mul h (a.ev_el h hr) (b.ev_el h hr)
  | .neg a => El.neg h (a.ev_el h hr)
/-- Products of variables, in order. -/
def insM (i : Nat) : List Nat → List Nat
  | [] => [i]
  | j :: l => if i ≤ j then i :: j :: l else j :: insM i l
def mrg : List Nat → List Nat → List Nat
  | [], l => l
  | i :: k, l => insM i (mrg k l)
def pM (q : Int) (r : Nat → Int) : List Nat → Int
  | [] => 1
  | i :: l => mulF q (r i) (pM q r l)
theorem pM_el {q : Int} {r : Nat → Int} (h : isSz q = true) (hr : ∀ i, El q (r i)) : ∀ l, El q (pM q r l)
  | [] => El.one h
  | i :: l => El.mul h (hr i) (pM_el h hr l)
theorem pM_insM {q : Int} {r : Nat → Int} (h : isSz q = true) (hr : ∀ i, El q (r i)) (i : Nat) : ∀ l, pM q r (insM i l) = mulF q (r i) (pM q r l)
  | [] => rfl
  | j :: l => by
    unfold insM
    split
    · rfl
    · show mulF q (r j) (pM q r (insM i l)) = mulF q (r i) (mulF q (r j) (pM q r l))
      rw [pM_insM h hr i l, ← mul_assoc' h (hr j) (hr i) (pM_el h hr l), ← mul_assoc' h (hr i) (hr j) (pM_el h hr l), mul_comm' h (hr j) (hr i)]
theorem pM_mrg {q : Int} {r : Nat → Int} (h : isSz q = true) (hr : ∀ i, El q (r i)) (l : List Nat) : ∀ k, pM q r (mrg k l) = mulF q (pM q r k) (pM q r l)
  | [] => ((mul_one' h (pM_el h hr l)).1).symm
  | i :: k => by
    show pM q r (insM i (mrg k l)) = mulF q (mulF q (r i) (pM q r k)) (pM q r l)
    rw [pM_insM h hr, pM_mrg h hr l k, mul_assoc' h (hr i) (pM_el h hr k) (pM_el h hr l)]
/-- Signed products. -/
def sM (q : Int) (r : Nat → Int) (t : Bool × List Nat) : Int := if t.1 then subF q 0 (pM q r t.2) else pM q r t.2
theorem sM_el {q : Int} {r : Nat → Int} (h : isSz q = true) (hr : ∀ i, El q (r i)) (t : Bool × List Nat) : El q (sM q r t) := by
  unfold sM
  split
  · exact El.neg h (pM_el h hr _)
  · exact pM_el h hr _
def sL (q : Int) (r : Nat → Int) : List (Bool × List Nat) → Int
  | [] => 0
  | t :: l => addF q (sM q r t) (sL q r l)
theorem sL_el {q : Int} {r : Nat → Int} (h : isSz q = true) (hr : ∀ i, El q (r i)) : ∀ l, El q (sL q r l)
  | [] => El.zero h
  | t :: l => El.add h (sM_el h hr t) (sL_el h hr l)
theorem sL_app {q : Int} {r : Nat → Int} (h : isSz q = true) (hr : ∀ i, El q (r i)) (k : List (Bool × List Nat)) : ∀ l, sL q r (l ++ k) = addF q (sL q r l) (sL q r k)
  | [] => ((add_zero' h (sL_el h hr k)).2).symm
  | t :: l => by
    show addF q (sM q r t) (sL q r (l ++ k)) = addF q (addF q (sM q r t) (sL q r l)) (sL q r k)
    rw [sL_app h hr k l, add_assoc' h (sM_el h hr t) (sL_el h hr l) (sL_el h hr k)]
theorem neg_neg' {q a : Int} (h : isSz q = true) (ha : El q a) : subF q 0 (subF q 0 a) = a :=
  of_decide_eq_true (of_chk1 (f := fun q a => decide (subF q 0 (subF q 0 a) = a)) (by decide +kernel) q a h ha.1 ha.2)
theorem add_negs {q a : Int} (h : isSz q = true) (ha : El q a) : addF q a (subF q 0 a) = 0 ∧ addF q (subF q 0 a) a = 0 :=
  of_decide_eq_true (of_chk1 (f := fun q a => decide (addF q a (subF q 0 a) = 0 ∧ addF q (subF q 0 a) a = 0)) (by decide +kernel) q a h ha.1 ha.2)
theorem eq_of_less {q a b : Int} (h : isSz q = true) (ha : El q a) (hb : El q b) (e : addF q a (subF q 0 b) = 0) : a = b :=
  of_decide_eq_true (of_chk2 (f := fun q a b => decide (addF q a (subF q 0 b) = 0 → a = b)) (by decide +kernel) q a b h ha.1 ha.2 hb.1 hb.2) e
def flp (t : Bool × List Nat) : Bool × List Nat := (!t.1, t.2)
theorem sM_flp {q : Int} {r : Nat → Int} (h : isSz q = true) (hr : ∀ i, El q (r i)) (t : Bool × List Nat) : sM q r (flp t) = subF q 0 (sM q r t) := by
  obtain ⟨b, l⟩ := t
  cases b with
  | false => rfl
  | true => exact (neg_neg' h (pM_el h hr l)).symm
theorem sL_neg {q : Int} {r : Nat → Int} (h : isSz q = true) (hr : ∀ i, El q (r i)) : ∀ l, sL q r (l.map flp) = subF q 0 (sL q r l)
  | [] => (neg_zero' h).symm
  | t :: l => by
    show addF q (sM q r (flp t)) (sL q r (l.map flp)) = subF q 0 (addF q (sM q r t) (sL q r l))
    rw [sM_flp h hr, sL_neg h hr l, neg_add' h (sM_el h hr t) (sL_el h hr l)]
def mT (s t : Bool × List Nat) : Bool × List Nat := (xor s.1 t.1, mrg s.2 t.2)
theorem sM_mul {q : Int} {r : Nat → Int} (h : isSz q = true) (hr : ∀ i, El q (r i)) (s t : Bool × List Nat) : sM q r (mT s t) = mulF q (sM q r s) (sM q r t) := by
  obtain ⟨b, k⟩ := s
  obtain ⟨c, l⟩ := t
  have hk := pM_el h hr k
  have hl := pM_el h hr l
  cases b with
  | false =>
    cases c with
    | false => exact pM_mrg h hr l k
    | true =>
      show subF q 0 (pM q r (mrg k l)) = mulF q (pM q r k) (subF q 0 (pM q r l))
      rw [pM_mrg h hr, neg_mul' h hk hl]
  | true =>
    cases c with
    | false =>
      show subF q 0 (pM q r (mrg k l)) = mulF q (subF q 0 (pM q r k)) (pM q r l)
      rw [pM_mrg h hr, mul_comm' h (El.neg h hk) hl, neg_mul' h hl hk, mul_comm' h hl hk]
    | true =>
      show pM q r (mrg k l) = mulF q (subF q 0 (pM q r k)) (subF q 0 (pM q r l))
      rw [pM_mrg h hr, neg_mul' h (El.neg h hk) hl, mul_comm' h (El.neg h hk) hl, neg_mul' h hl hk, neg_neg' h (El.mul h hl hk), mul_comm' h hl hk]
theorem sL_one {q : Int} {r : Nat → Int} (h : isSz q = true) (hr : ∀ i, El q (r i)) (s : Bool × List Nat) : ∀ l, sL q r (l.map (mT s)) = mulF q (sM q r s) (sL q r l)
  | [] => ((mul_zero' h (sM_el h hr s)).2).symm
  | t :: l => by
    show addF q (sM q r (mT s t)) (sL q r (l.map (mT s))) = mulF q (sM q r s) (addF q (sM q r t) (sL q r l))
    rw [sM_mul h hr, sL_one h hr s l, mul_add' h (sM_el h hr s) (sM_el h hr t) (sL_el h hr l)]
def mL : List (Bool × List Nat) → List (Bool × List Nat) → List (Bool × List Nat)
  | [], _ => []
  | s :: k, l => l.map (mT s) ++ mL k l
theorem add_mul' {q a b c : Int} (h : isSz q = true) (ha : El q a) (hb : El q b) (hc : El q c) : mulF q (addF q a b) c = addF q (mulF q a c) (mulF q b c) := by
  rw [mul_comm' h (El.add h ha hb) hc, mul_add' h hc ha hb, mul_comm' h hc ha, mul_comm' h hc hb]
theorem sL_mul {q : Int} {r : Nat → Int} (h : isSz q = true) (hr : ∀ i, El q (r i)) (l : List (Bool × List Nat)) : ∀ k, sL q r (mL k l) = mulF q (sL q r k) (sL q r l)
  | [] => ((mul_zero' h (sL_el h hr l)).1).symm
  | s :: k => by
    show sL q r (l.map (mT s) ++ mL k l) = mulF q (addF q (sM q r s) (sL q r k)) (sL q r l)
    rw [sL_app h hr, sL_one h hr, sL_mul h hr l k, add_mul' h (sM_el h hr s) (sL_el h hr k) (sL_el h hr l)]
/-- An expression, expanded. -/
def RE.ex : RE → List (Bool × List Nat)
  | .x i => [(false, [i])]
  | .zero => []
  | .one => [(false, [])]
  | .add a b => a.ex ++ b.ex
  | .mul a b => mL a.ex b.ex
  | .neg a => a.ex.map flp
theorem RE.ex_ev {q : Int} {r : Nat → Int} (h : isSz q = true) (hr : ∀ i, El q (r i)) : ∀ e : RE, sL q r e.ex = e.ev q r
  | .x i => by
    show addF q (mulF q (r i) 1) 0 = r i
    rw [(mul_one' h (hr i)).2, (add_zero' h (hr i)).1]
  | .zero => rfl
  | .one => (add_zero' h (El.one h)).1
  | .add a b => by
    show sL q r (a.ex ++ b.ex) = addF q (a.ev q r) (b.ev q r)
    rw [sL_app h hr, a.ex_ev h hr, b.ex_ev h hr]
  | .mul a b => by
    show sL q r (mL a.ex b.ex) = mulF q (a.ev q r) (b.ev q r)
    rw [sL_mul h hr, a.ex_ev h hr, b.ex_ev h hr]
  | .neg a => by
    show sL q r (a.ex.map flp) = subF q 0 (a.ev q r)
    rw [sL_neg h hr, a.ex_ev h hr]
def sameT (s t : Bool × List Nat) : Bool := (s.1 == t.1) && (s.2 == t.2)
theorem sameT_eq {s t : Bool × List Nat} (h : sameT s t = true) : s = t := by
  obtain ⟨b, k⟩ := s
  obtain ⟨c, l⟩ := t
  simp [sameT] at h
  rw [h.1, h.2]
/-- What is left without one t. -/
def drp (t : Bool × List Nat) : List (Bool × List Nat) → Option (List (Bool × List Nat))
  | [] => none
  | s :: l => if sameT s t then some l else (drp t l).map (s :: ·)
theorem drp_sum {q : Int} {r : Nat → Int} (h : isSz q = true) (hr : ∀ i, El q (r i)) (t : Bool × List Nat) : ∀ l k, drp t l = some k → sL q r l = addF q (sM q r t) (sL q r k)
  | [], _, e => by cases e
  | s :: l, k, e => by
    unfold drp at e
    split at e
    · rename_i hs
      cases e
      rw [← sameT_eq hs]
      rfl
    · cases hd : drp t l with
      | none => rw [hd] at e; cases e
      | some k' =>
        rw [hd] at e
        cases e
        show addF q (sM q r s) (sL q r l) = addF q (sM q r t) (addF q (sM q r s) (sL q r k'))
        rw [drp_sum h hr t l k' hd, ← add_assoc' h (sM_el h hr s) (sM_el h hr t) (sL_el h hr k'), ← add_assoc' h (sM_el h hr t) (sM_el h hr s) (sL_el h hr k'), add_comm' h (sM_el h hr s) (sM_el h hr t)]
/-- All products cancel each other. -/
def canc : Nat → List (Bool × List Nat) → Bool
  | _, [] => true
  | 0, _ :: _ => false
  | n + 1, t :: l => match drp (flp t) l with
    | none => false
    | some k => canc n k
theorem canc_zero {q : Int} {r : Nat → Int} (h : isSz q = true) (hr : ∀ i, El q (r i)) : ∀ n l, canc n l = true → sL q r l = 0
  | _, [], _ => by unfold sL; rfl
  | 0, _ :: _, e => by cases e
  | n + 1, t :: l, e => by
    unfold canc at e
    cases hd : drp (flp t) l with
    | none => rw [hd] at e; cases e
    | some k =>
      rw [hd] at e
      show addF q (sM q r t) (sL q r l) = 0
      have hk : sL q r k = 0 := canc_zero h hr n k e
      rw [drp_sum h hr (flp t) l k hd, hk, (add_zero' h (sM_el h hr _)).1, sM_flp h hr]
      exact (add_negs h (sM_el h hr t)).1
/-- Two expressions are equal if all cancels. -/
def sameE (a b : RE) : Bool := canc 1000 (a.ex ++ b.ex.map flp)
theorem ring_eq {q : Int} {r : Nat → Int} (h : isSz q = true) (hr : ∀ i, El q (r i)) (a b : RE) (e : sameE a b = true) : a.ev q r = b.ev q r := by
  refine eq_of_less h (a.ev_el h hr) (b.ev_el h hr) ?_
  have h1 := canc_zero h hr 1000 _ e
  rw [sL_app h hr, sL_neg h hr, a.ex_ev h hr, b.ex_ev h hr] at h1
  exact h1
/-- Values of the first variables. -/
def env (l : List Int) : Nat → Int := fun i => l.getD i 0
theorem env_el {q : Int} (h : isSz q = true) {l : List Int} (hl : ∀ a ∈ l, El q a) (i : Nat) : El q (env l i) := by
  unfold env
  by_cases hi : i < l.length
  · rw [List.getD, List.getElem?_eq_getElem hi]
    exact hl _ (List.getElem_mem hi)
  · rw [List.getD, List.getElem?_eq_none (by omega)]
    exact El.zero h
theorem ring_at {q : Int} (h : isSz q = true) (l : List Int) (hl : ∀ a ∈ l, El q a) (a b : RE) (e : sameE a b = true) : a.ev q (env l) = b.ev q (env l) := ring_eq h (env_el h hl) a b e
theorem ev_x (q : Int) (r : Nat → Int) (i : Nat) : (RE.x i).ev q r = r i := rfl
theorem ev_zero (q : Int) (r : Nat → Int) : RE.zero.ev q r = 0 := rfl
theorem ev_one (q : Int) (r : Nat → Int) : RE.one.ev q r = 1 := rfl
theorem ev_add (q : Int) (r : Nat → Int) (a b : RE) : (a + b).ev q r = addF q (a.ev q r) (b.ev q r) := rfl
theorem ev_mul (q : Int) (r : Nat → Int) (a b : RE) : (a * b).ev q r = mulF q (a.ev q r) (b.ev q r) := rfl
theorem ev_neg (q : Int) (r : Nat → Int) (a : RE) : (-a).ev q r = subF q 0 (a.ev q r) := rfl
theorem env0 (a0 : Int) (l : List Int) : env (a0 :: l) 0 = a0 := rfl
theorem env1 (a0 a1 : Int) (l : List Int) : env (a0 :: a1 :: l) 1 = a1 := rfl
theorem env2 (a0 a1 a2 : Int) (l : List Int) : env (a0 :: a1 :: a2 :: l) 2 = a2 := rfl
theorem env3 (a0 a1 a2 a3 : Int) (l : List Int) : env (a0 :: a1 :: a2 :: a3 :: l) 3 = a3 := rfl
theorem env4 (a0 a1 a2 a3 a4 : Int) (l : List Int) : env (a0 :: a1 :: a2 :: a3 :: a4 :: l) 4 = a4 := rfl
theorem env5 (a0 a1 a2 a3 a4 a5 : Int) (l : List Int) : env (a0 :: a1 :: a2 :: a3 :: a4 :: a5 :: l) 5 = a5 := rfl
theorem env6 (a0 a1 a2 a3 a4 a5 a6 : Int) (l : List Int) : env (a0 :: a1 :: a2 :: a3 :: a4 :: a5 :: a6 :: l) 6 = a6 := rfl
theorem env7 (a0 a1 a2 a3 a4 a5 a6 a7 : Int) (l : List Int) : env (a0 :: a1 :: a2 :: a3 :: a4 :: a5 :: a6 :: a7 :: l) 7 = a7 := rfl
theorem env8 (a0 a1 a2 a3 a4 a5 a6 a7 a8 : Int) (l : List Int) : env (a0 :: a1 :: a2 :: a3 :: a4 :: a5 :: a6 :: a7 :: a8 :: l) 8 = a8 := rfl
theorem ring_test {q x y z : Int} (h : isSz q = true) (hx : El q x) (hy : El q y) (hz : El q z) : mulF q (addF q x (mulF q y z)) (addF q x (subF q 0 (mulF q y z))) = addF q (mulF q x x) (subF q 0 (mulF q (mulF q y y) (mulF q z z))) := by
  have := ring_at h [x, y, z] (by simp [hx, hy, hz]) ((.x 0 + .x 1 * .x 2) * (.x 0 + -(.x 1 * .x 2))) (.x 0 * .x 0 + -((.x 1 * .x 1) * (.x 2 * .x 2))) (by decide +kernel)
  simpa only [ev_x, ev_add, ev_mul, ev_neg, env0, env1, env2] using this
end Go.Proofs.YtljijnanmpajaaaGreat
