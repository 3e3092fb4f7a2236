/- Plain arithmetic of the small fields: how digits of sums, negatives, multiples and products are made. No program here. -/
import Derived.Test.YthklnfanbegecacDoorP
namespace Go.Proofs.YthklnfanbegecacDoor
set_option maxRecDepth 100000

theorem dg_bd (q a : Int) (i : Nat) (h : isSz q = true) : 0 ≤ dg q a i ∧ dg q a i < pr q := by
  have hp := pr_bd q h
  exact (digs_in (plN q) (pr q) a (by omega)).getD (by omega) i
theorem add_dg (q a b : Int) (hq : isSz q = true) (a0 : 0 ≤ a) (a1 : a < q) (b0 : 0 ≤ b) (b1 : b < q) :
    (dg q a 0 + dg q b 0) % pr q = dg q (addF q a b) 0 ∧ (if plN q < 2 then dg q a 1 else (dg q a 1 + dg q b 1) % pr q) = dg q (addF q a b) 1 ∧
    (if plN q < 3 then dg q a 2 else (dg q a 2 + dg q b 2) % pr q) = dg q (addF q a b) 2 ∧ (if plN q < 4 then dg q a 3 else (dg q a 3 + dg q b 3) % pr q) = dg q (addF q a b) 3 :=
  of_decide_eq_true (of_chk2 (f := fun q a b => decide ((dg q a 0 + dg q b 0) % pr q = dg q (addF q a b) 0 ∧ (if plN q < 2 then dg q a 1 else (dg q a 1 + dg q b 1) % pr q) = dg q (addF q a b) 1 ∧
    (if plN q < 3 then dg q a 2 else (dg q a 2 + dg q b 2) % pr q) = dg q (addF q a b) 2 ∧ (if plN q < 4 then dg q a 3 else (dg q a 3 + dg q b 3) % pr q) = dg q (addF q a b) 3)) (by decide +kernel) q a b hq a0 a1 b0 b1)
theorem neg_dg (q a : Int) (hq : isSz q = true) (a0 : 0 ≤ a) (a1 : a < q) :
    (pr q - dg q a 0) % pr q = dg q (subF q 0 a) 0 ∧ (if plN q < 2 then dg q a 1 else (pr q - dg q a 1) % pr q) = dg q (subF q 0 a) 1 ∧
    (if plN q < 3 then dg q a 2 else (pr q - dg q a 2) % pr q) = dg q (subF q 0 a) 2 ∧ (if plN q < 4 then dg q a 3 else (pr q - dg q a 3) % pr q) = dg q (subF q 0 a) 3 :=
  of_decide_eq_true (of_chk1 (f := fun q a => decide ((pr q - dg q a 0) % pr q = dg q (subF q 0 a) 0 ∧ (if plN q < 2 then dg q a 1 else (pr q - dg q a 1) % pr q) = dg q (subF q 0 a) 1 ∧
    (if plN q < 3 then dg q a 2 else (pr q - dg q a 2) % pr q) = dg q (subF q 0 a) 2 ∧ (if plN q < 4 then dg q a 3 else (pr q - dg q a 3) % pr q) = dg q (subF q 0 a) 3)) (by decide +kernel) q a hq a0 a1)
theorem add_neg (q a b : Int) (hq : isSz q = true) (a0 : 0 ≤ a) (a1 : a < q) (b0 : 0 ≤ b) (b1 : b < q) : addF q a (subF q 0 b) = subF q a b :=
  of_decide_eq_true (of_chk2 (f := fun q a b => decide (addF q a (subF q 0 b) = subF q a b)) (by decide +kernel) q a b hq a0 a1 b0 b1)
/-- c times an element, c a digit of another one. -/
theorem scl_dg (q a c : Int) (hq : isSz q = true) (a0 : 0 ≤ a) (a1 : a < q) (c0 : 0 ≤ c) (c1 : c < pr q) :
    c * dg q a 0 % pr q = dg q (mulF q c a) 0 ∧ (if plN q < 2 then dg q a 1 else c * dg q a 1 % pr q) = dg q (mulF q c a) 1 ∧
    (if plN q < 3 then dg q a 2 else c * dg q a 2 % pr q) = dg q (mulF q c a) 2 ∧ (if plN q < 4 then dg q a 3 else c * dg q a 3 % pr q) = dg q (mulF q c a) 3 := by
  have hc : c < q := by
    rcases sz_split q hq with rfl | rfl | rfl | rfl | rfl | rfl | rfl | rfl | rfl | rfl <;> (simp [pr] at c1; omega)
  have h := of_chk2 (f := fun q c a => decide (pr q ≤ c) || decide (c * dg q a 0 % pr q = dg q (mulF q c a) 0 ∧ (if plN q < 2 then dg q a 1 else c * dg q a 1 % pr q) = dg q (mulF q c a) 1 ∧
    (if plN q < 3 then dg q a 2 else c * dg q a 2 % pr q) = dg q (mulF q c a) 2 ∧ (if plN q < 4 then dg q a 3 else c * dg q a 3 % pr q) = dg q (mulF q c a) 3)) (by decide +kernel) q c a hq c0 hc a0 a1
  simp only [Bool.or_eq_true, decide_eq_true_eq] at h
  rcases h with h | h
  · omega
  · exact h
theorem scl_lt (q c : Int) (hq : isSz q = true) (c1 : c < pr q) : c < q := by
  rcases sz_split q hq with rfl | rfl | rfl | rfl | rfl | rfl | rfl | rfl | rfl | rfl <;> (simp [pr] at c1; omega)
/-- x times an element. -/
def tXF (q a : Int) : Int := if plN q = 1 then 0 else mulF q (pr q) a
theorem tXF_bd (q a : Int) (hq : isSz q = true) (a0 : 0 ≤ a) (a1 : a < q) : 0 ≤ tXF q a ∧ tXF q a < q :=
  of_decide_eq_true (of_chk1 (f := fun q a => decide (0 ≤ tXF q a ∧ tXF q a < q)) (by decide +kernel) q a hq a0 a1)
/-- The product after n rounds. -/
def tmTo (q a b : Int) : Nat → Int
  | 0 => 0
  | n + 1 => addF q (tXF q (tmTo q a b n)) (mulF q (dg q a (plN q - 1 - n)) b)
theorem tmTo_bd (q a b : Int) (hq : isSz q = true) (b0 : 0 ≤ b) (b1 : b < q) (n : Nat) : 0 ≤ tmTo q a b n ∧ tmTo q a b n < q := by
  have := isSz_le q hq
  induction n with
  | zero => simp only [tmTo]; omega
  | succ n ih =>
    have h1 := tXF_bd q _ hq ih.1 ih.2
    have hd := dg_bd q a (plN q - 1 - n) hq
    have h2 := mulF_bd q _ b hq hd.1 (scl_lt q _ hq hd.2) b0 b1
    exact addF_bd q _ _ hq h1.1 h1.2 h2.1 h2.2
theorem tm_model (q a b : Int) (hq : isSz q = true) (a0 : 0 ≤ a) (a1 : a < q) (b0 : 0 ≤ b) (b1 : b < q) : tmTo q a b (plN q) = mulF q a b :=
  of_decide_eq_true (of_chk2 (f := fun q a b => decide (tmTo q a b (plN q) = mulF q a b)) (by decide +kernel) q a b hq a0 a1 b0 b1)
/-- Elements are told by their digits. -/
theorem dg_inj (q a b : Int) (hq : isSz q = true) (a0 : 0 ≤ a) (a1 : a < q) (b0 : 0 ≤ b) (b1 : b < q) :
    (decide (dg q a 0 = dg q b 0) && (decide (dg q a 1 = dg q b 1) && (decide (dg q a 2 = dg q b 2) && decide (dg q a 3 = dg q b 3)))) = decide (a = b) :=
  of_decide_eq_true (of_chk2 (f := fun q a b => decide ((decide (dg q a 0 = dg q b 0) && (decide (dg q a 1 = dg q b 1) && (decide (dg q a 2 = dg q b 2) && decide (dg q a 3 = dg q b 3)))) = decide (a = b))) (by decide +kernel) q a b hq a0 a1 b0 b1)
end Go.Proofs.YthklnfanbegecacDoor
