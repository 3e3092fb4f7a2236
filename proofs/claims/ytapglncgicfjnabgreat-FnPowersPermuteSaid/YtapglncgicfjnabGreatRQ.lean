/- Slices of slices of integers that came in: laws.szIntSS, laws.toIntSS by contracts. -/
import Derived.Test.YtapglncgicfjnabGreatRM
namespace Go.Proofs.YtapglncgicfjnabGreat
open Go.RowKit
/-- v reads as n lists. -/
def Sls (w : World) (v : Value) (n : Nat) (F : Nat → List Int) : Prop :=
  (n = 0 ∧ ∃ a cap, v = .slice a 0 cap) ∨
  ∃ b off cap, ∃ X : Nat → Value, v = .slice (some ⟨b, off, none⟩) n cap ∧ b < w.heap.size ∧ ∀ i, i < n → w.cell? ⟨b, off + i, none⟩ = some (X i) ∧ Sl w (X i) (F i)
theorem Sls.below {w w' : World} {v : Value} {n B : Nat} {F : Nat → List Int} (h : Sls w v n F) (hb : Below B w w') (hB : w.heap.size ≤ B) : Sls w' v n F := by
  rcases h with h | ⟨b, off, cap, X, rfl, hlt, hc⟩
  · exact .inl h
  · exact .inr ⟨b, off, cap, X, rfl, by have := hb.size; omega, fun i hi => ⟨(hb.cell (p := ⟨b, off + i, none⟩) (show b < B by omega)).trans (hc i hi).1, (hc i hi).2.below hb hB⟩⟩
theorem Sls.form {w : World} {v : Value} {n : Nat} {F : Nat → List Int} (h : Sls w v n F) : ∃ a cap, v = .slice a n cap := by
  rcases h with ⟨rfl, a, cap, rfl⟩ | ⟨b, off, cap, X, rfl, _⟩
  · exact ⟨_, _, rfl⟩
  · exact ⟨_, _, rfl⟩
theorem Sls.open {w : World} {v : Value} {n : Nat} {F : Nat → List Int} (h : Sls w v n F) (hn : 0 < n) : ∃ b off cap, ∃ X : Nat → Value, v = .slice (some ⟨b, off, none⟩) n cap ∧ b < w.heap.size ∧ ∀ i, i < n → w.cell? ⟨b, off + i, none⟩ = some (X i) ∧ Sl w (X i) (F i) := by
  rcases h with ⟨rfl, _⟩ | h
  · omega
  · exact h
/-- Slices of one's own as read. -/
def Rs (w : World) (v : Value) (n : Nat) (F : Nat → List Int) : Prop := ∃ B X, RS w B v n F X
theorem Rs.below {w w' : World} {v : Value} {n : Nat} {F : Nat → List Int} (h : Rs w v n F) (hb : Below w.heap.size w w') : Rs w' v n F := by
  obtain ⟨B, X, hr⟩ := h
  exact ⟨B, X, hr.below hb⟩
theorem RS.rs {w : World} {B n : Nat} {v : Value} {F : Nat → List Int} {X : Nat → Value} (h : RS w B v n F X) : Rs w v n F := ⟨B, X, h⟩
end Go.Proofs.YtapglncgicfjnabGreat
