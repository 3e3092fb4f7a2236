/- Slices of integers that are read: those that came in and those of one's own; laws.toIntS by a contract. -/
import Derived.Test.YthklnfanbegecacDoorR
import Derived.Test.YthklnfanbegecacDoorHA
namespace Go.Proofs.YthklnfanbegecacDoor
open Go.RowKit
/-- What the walk is told of a slice of integers that came in. -/
def IsRow (k : IntKind) (w : World) (a : Option Addr) (len cap : Nat) (zs : List Int) : Prop :=
  (a = none ∧ len = 0 ∧ cap = 0 ∧ zs = []) ∨
  ∃ x, a = some x ∧ len ≤ cap ∧ cap ≤ maxLen ∧ zs.length = cap ∧ (∀ i, i < zs.length → w.cell? (x.add i) = some (.int k (zs.getD i 0))) ∧ ∀ n ∈ zs, (Lit.int k n).wf = true
/-- v is a slice that reads as l, wherever it lies. -/
def Sl (w : World) (v : Value) (l : List Int) : Prop :=
  (l = [] ∧ ∃ a cap, v = .slice a 0 cap) ∨
  ∃ b off cap, v = .slice (some ⟨b, off, none⟩) l.length cap ∧ b < w.heap.size ∧ ∀ j, j < l.length → w.cell? ⟨b, off + j, none⟩ = some (.int .i64 (l.getD j 0))
theorem Sl.nil (w : World) : Sl w (.slice none 0 0) [] := .inl ⟨rfl, _, _, rfl⟩
theorem Row.sl {w : World} {B : Nat} {v : Value} {l : List Int} (h : Row w B v l) : Sl w v l := by
  by_cases hl : 0 < l.length
  · obtain ⟨g, cap, rfl, _, h2⟩ := h.form hl
    exact .inr ⟨g, 0, cap, rfl, h2, fun j hj => by rw [Nat.zero_add]; exact h.cell j hj⟩
  · obtain rfl : l = [] := List.length_eq_zero_iff.1 (by omega)
    obtain ⟨a, cap, rfl⟩ := h.empty
    exact .inl ⟨rfl, _, _, rfl⟩
theorem Sl.below {w w' : World} {v : Value} {l : List Int} {B : Nat} (h : Sl w v l) (hb : Below B w w') (hB : w.heap.size ≤ B) : Sl w' v l := by
  rcases h with h | ⟨b, off, cap, rfl, hlt, hc⟩
  · exact .inl h
  · exact .inr ⟨b, off, cap, rfl, by have := hb.size; omega, fun j hj => (hb.cell (p := ⟨b, off + j, none⟩) (show b < B by omega)).trans (hc j hj)⟩
theorem Sl.alloc {w : World} {v : Value} {l : List Int} (h : Sl w v l) (o : Obj) : Sl (w.alloc o) v l := h.below (Below.refl _ _ |>.alloc (Nat.le_refl _) o) (Nat.le_refl _)
theorem Sl.open {w : World} {v : Value} {l : List Int} {n : Nat} (h : Sl w v l) (hn : l.length = n) (hp : 0 < n) : ∃ b off cap, v = .slice (some ⟨b, off, none⟩) n cap ∧ b < w.heap.size ∧ ∀ j, j < n → w.cell? ⟨b, off + j, none⟩ = some (.int .i64 (l.getD j 0)) := by
  subst hn
  rcases h with ⟨rfl, _⟩ | h
  · simp at hp
  · exact h
theorem Sl.empty {w : World} {v : Value} (h : Sl w v []) : ∃ a cap, v = .slice a 0 cap := by
  rcases h with ⟨_, h⟩ | ⟨b, off, cap, h, _⟩
  · exact h
  · exact ⟨_, _, h⟩
theorem IsRow.sl {w : World} {a : Option Addr} {len cap : Nat} {zs : List Int} (h : IsRow .i64 w a len cap zs) : Sl w (.slice a len cap) (zs.take len) ∧ (zs.take len).length = len ∧ ∀ n ∈ zs.take len, (Lit.int .i64 n).wf = true := by
  rcases h with ⟨rfl, rfl, rfl, rfl⟩ | ⟨x, rfl, hl, hm, hz, hcell, hwz⟩
  · exact ⟨.inl ⟨rfl, _, _, rfl⟩, rfl, by simp⟩
  · have hlen : (zs.take len).length = len := by rw [List.length_take]; omega
    refine ⟨?_, hlen, fun n hn => hwz n (List.mem_of_mem_take hn)⟩
    by_cases h0 : len = 0
    · subst h0
      exact .inl ⟨by simp, _, _, rfl⟩
    · obtain ⟨b, off, spot⟩ := x
      have hc := hcell 0 (by omega)
      have hspot : spot = none := by simpa [Addr.add] using World.cell?_spot hc
      subst hspot
      have hc' : ∀ j, j < len → w.cell? ⟨b, off + j, none⟩ = some (.int .i64 ((zs.take len).getD j 0)) := by
        intro j hj
        have := hcell j (by omega)
        rw [show (zs.take len).getD j 0 = zs.getD j 0 from by simp [List.getD, hj]]
        have e : (⟨b, off, none⟩ : Addr).add j = ⟨b, off + j, none⟩ := by by_cases h0 : j = 0 <;> simp [Addr.add, h0]
        rw [← e]
        exact this
      exact .inr ⟨b, off, cap, by rw [hlen], World.block_lt_of_cell? w _ (hc' 0 (by omega)), fun j hj => hc' j (by omega)⟩
end Go.Proofs.YthklnfanbegecacDoor
