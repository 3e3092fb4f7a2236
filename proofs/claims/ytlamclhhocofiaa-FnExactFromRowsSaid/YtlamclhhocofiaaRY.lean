/- Slices of slices of integers as the claim opens them. -/
import Derived.Test.YtlamclhhocofiaaRX
namespace Go.Proofs.Ytlamclhhocofiaa
open Go.RowKit
theorem IsRow.le {w : World} {a : Option Addr} {len cap : Nat} {zs : List Int} (h : IsRow .i64 w a len cap zs) : (zs.take len).length ≤ 9223372036854775807 := by
  have h1 := h.sl.2.1
  rw [h1]
  rcases h with ⟨_, rfl, _⟩ | ⟨_, _, hl, hm, _⟩
  · omega
  · have : maxLen = 9223372036854775807 := rfl
    omega
theorem Sls.rows {w : World} {a : Addr} {len cap : Nat} {A : Nat → Option Addr} {L C : Nat → Nat} {Z : Nat → List Int} (hl : len ≤ cap) (h : ∀ r, r < cap → w.cell? (a.add r) = some (.slice (A r) (L r) (C r)) ∧ IsRow .i64 w (A r) (L r) (C r) (Z r)) : Sls w (.slice (some a) len cap) len (fun r => (Z r).take (L r)) := by
  by_cases h0 : len = 0
  · subst h0
    exact .inl ⟨rfl, _, _, rfl⟩
  · obtain ⟨b, off, spot⟩ := a
    have hc := (h 0 (by omega)).1
    have hspot : spot = none := by simpa [Addr.add] using World.cell?_spot hc
    subst hspot
    have hc' : ∀ j, j < len → w.cell? ⟨b, off + j, none⟩ = some (.slice (A j) (L j) (C j)) := by
      intro j hj
      have := (h j (by omega)).1
      have e : (⟨b, off, none⟩ : Addr).add j = ⟨b, off + j, none⟩ := by by_cases h0 : j = 0 <;> simp [Addr.add, h0]
      rw [← e]
      exact this
    exact .inr ⟨b, off, cap, fun j => .slice (A j) (L j) (C j), rfl, World.block_lt_of_cell? w _ (hc' 0 (by omega)), fun j hj => ⟨hc' j hj, (h j (by omega)).2.sl.1⟩⟩
end Go.Proofs.Ytlamclhhocofiaa
