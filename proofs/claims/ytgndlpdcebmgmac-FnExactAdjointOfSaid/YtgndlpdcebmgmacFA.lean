/- Conjugates: plain arithmetic; spec.fdRound and spec.fdTrace by contracts; the model's side of the laws of traces and norms. -/
import Derived.Test.YtgndlpdcebmgmacKG
import Derived.Test.YtgndlpdcebmgmacKC
import Derived.Test.YtgndlpdcebmgmacKE
namespace Go.Proofs.Ytgndlpdcebmgmac
open Go.RowKit
/-- The power p^n of an element. -/
def fro (q a : Int) : Nat → Int
  | 0 => a
  | n + 1 => pw q (fro q a n) (pr q).toNat
theorem fro_bd (q a : Int) (h : isSz q = true) (a0 : 0 ≤ a) (a1 : a < q) (n : Nat) : 0 ≤ fro q a n ∧ fro q a n < q := by
  induction n with
  | zero => exact ⟨a0, a1⟩
  | succ n ih => exact pw_bd q _ h ih.1 ih.2 _
/-- The first n of these powers. -/
def frol (q a : Int) (n : Nat) : List Int := (List.range n).map (fro q a)
theorem frol_len (q a : Int) (n : Nat) : (frol q a n).length = n := by simp [frol]
theorem frol_succ (q a : Int) (n : Nat) : frol q a (n + 1) = frol q a n ++ [fro q a n] := by simp [frol, List.range_succ]
theorem frol_get (q a : Int) (n i : Nat) (h : i < n) : (frol q a n).getD i 0 = fro q a i := by simp [frol, List.getD, h]
/-- The sum of the first n of them. -/
def traTo (q a : Int) : Nat → Int
  | 0 => 0
  | n + 1 => addF q (traTo q a n) (fro q a n)
theorem traTo_bd (q a : Int) (h : isSz q = true) (a0 : 0 ≤ a) (a1 : a < q) (n : Nat) : 0 ≤ traTo q a n ∧ traTo q a n < q := by
  have hq := isSz_le q h
  induction n with
  | zero => simp only [traTo]; omega
  | succ n ih =>
    have h2 := fro_bd q a h a0 a1 n
    exact addF_bd q _ _ h ih.1 ih.2 h2.1 h2.2
/-- The product of the first n of them. -/
def norTo (q a : Int) : Nat → Int
  | 0 => 1
  | n + 1 => mulF q (norTo q a n) (fro q a n)
theorem norTo_bd (q a : Int) (h : isSz q = true) (a0 : 0 ≤ a) (a1 : a < q) (n : Nat) : 0 ≤ norTo q a n ∧ norTo q a n < q := by
  have hq := isSz_le q h
  induction n with
  | zero => simp only [norTo]; omega
  | succ n ih =>
    have h2 := fro_bd q a h a0 a1 n
    exact mulF_bd q _ _ h ih.1 ih.2 h2.1 h2.2

/-- A slice that is read: block and cells. -/
theorem Row.open {w : World} {B n : Nat} {v : Value} {l : List Int} (h : Row w B v l) (hn : l.length = n) (hl : 0 < n) : ∃ g cap, v = .slice (some ⟨g, 0, none⟩) n cap ∧ B ≤ g ∧ g < w.heap.size ∧ ∀ i, i < n → w.cell? ⟨g, i, none⟩ = some (.int .i64 (l.getD i 0)) := by
  subst hn
  obtain ⟨g, cap, rfl, h1, h2⟩ := h.form hl
  exact ⟨g, cap, rfl, h1, h2, fun i hi => h.cell i hi⟩

end Go.Proofs.Ytgndlpdcebmgmac
