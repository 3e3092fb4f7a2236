/- Slices of integers that the call itself makes ('Row'); spec.fdDigits and spec.fdFrom by contracts. -/
import Derived.Test.YthklnfanbegecacDoorB
namespace Go.Proofs.YthklnfanbegecacDoor
open Go.RowKit

theorem Tryd.infoI : (Tryd.prog.info? 3).map (fun i => (i.zero, i.size, i.bytes)) = some (some (.int .i64 0), 1, 8) := by kernel_rfl

/-- v is a slice that holds the numbers l, in memory of blocks from B on that is written by nobody else. -/
def Row (w : World) (B : Nat) (v : Value) (l : List Int) : Prop := w.ownsRow B 3 1 v l.length (l.map (Value.int .i64))
theorem Row.nil (w : World) (B : Nat) : Row w B (.slice none 0 0) [] := World.ownsRow_nil _ _ _ _
theorem Row.form {w : World} {B : Nat} {v : Value} {l : List Int} (h : Row w B v l) (hl : 0 < l.length) : ∃ g cap, v = .slice (some ⟨g, 0, none⟩) l.length cap ∧ B ≤ g ∧ g < w.heap.size :=
  by
  rcases h.2 with ⟨_, h0⟩ | ⟨g, cap, cur, hv, hb, hg, _⟩
  · omega
  · exact ⟨g, cap, hv, hb, (Array.getElem?_eq_some_iff.1 hg).1⟩
theorem Row.cell {w : World} {B g cap : Nat} {l : List Int} (h : Row w B (.slice (some ⟨g, 0, none⟩) l.length cap) l) (i : Nat) (hi : i < l.length) : w.cell? ⟨g, i, none⟩ = some (.int .i64 (l.getD i 0)) := by
  rw [World.ownsRow.cellAt h i (by omega), List.getElem?_map, List.getElem?_eq_getElem hi]
  simp [List.getD, hi]
theorem Row.frozen {w : World} {B g n cap : Nat} {l : List Int} (h : Row w B (.slice (some ⟨g, 0, none⟩) n cap) l) (hn : n = l.length) (i : Nat) : w.frozen? ⟨g, i, none⟩ = false := by
  subst hn
  exact World.ownsRow.frozenAt h i
theorem Row.store {w : World} {B g n cap : Nat} {l : List Int} (h : Row w B (.slice (some ⟨g, 0, none⟩) n cap) l) (hn : n = l.length) (i : Nat) (x : Int) :
    Row (w.setCell ⟨g, i, none⟩ (.int .i64 x)) B (.slice (some ⟨g, 0, none⟩) n cap) (l.set i x) := by
  subst hn
  have := (World.ownsRow.stored h i (.int .i64 x)).1
  unfold Row
  rw [List.length_set, List.map_set]
  exact this
theorem Row.keep {w w' : World} {B : Nat} {v : Value} {l : List Int} (h : Row w B v l) (hk : ∀ g, v.ownBlock = some g → w'.heap[g]? = w.heap[g]?) : Row w' B v l := by
  refine ⟨h.1, ?_⟩
  rcases h.2 with hn | ⟨g, cap, cur, rfl, hb, hg, r⟩
  · exact .inl hn
  · exact .inr ⟨g, cap, cur, rfl, hb, (hk g rfl).trans hg, r⟩
theorem Row.lt {w : World} {B : Nat} {v : Value} {l : List Int} (h : Row w B v l) : ∀ g, v.ownBlock = some g → B ≤ g ∧ g < w.heap.size := World.ownsRow.lt h
theorem Row.below {w w' : World} {B : Nat} {v : Value} {l : List Int} (h : Row w B v l) (hb : Below w.heap.size w w') : Row w' B v l :=
  h.keep fun g hg => hb.block g (h.lt g hg).2
theorem Row.other {w : World} {B : Nat} {v : Value} {l : List Int} (h : Row w B v l) {a : Addr} (ha : v.ownBlock ≠ some a.block) (u : Value) : Row (w.setCell a u) B v l := ownsRow_setCell_other h ha u
theorem Row.grown {w w' : World} {B : Nat} {v : Value} {l : List Int} (h : Row w B v l) (hg : w.grownBy w' none) : Row w' B v l :=
  h.keep fun g e => hg.block g (h.lt g e).2 (by simp)
theorem Row.alloc {w : World} {B : Nat} {v : Value} {l : List Int} (h : Row w B v l) (o : Obj) : Row (w.alloc o) B v l := World.ownsRow.alloc h o
theorem Row.drew {w : World} {B : Nat} {v : Value} {l : List Int} (h : Row w B v l) : Row w.drew B v l := h
theorem Row.drewN {w : World} {B : Nat} {v : Value} {l : List Int} (h : Row w B v l) (n : Nat) : Row (w.drewN n) B v l := h
theorem Row.mono {w : World} {B B' : Nat} {v : Value} {l : List Int} (h : Row w B v l) (hB : B' ≤ B) : Row w B' v l := by
  refine ⟨h.1, ?_⟩
  rcases h.2 with hn | ⟨g, cap, cur, hv, hb, r⟩
  · exact .inl hn
  · exact .inr ⟨g, cap, cur, hv, Nat.le_trans hB hb, r⟩
theorem Row.appended {w : World} {B : Nat} {v' : Value} {l : List Int} {x : Int} (h : w.ownsRow B 3 1 v' (l.length + 1) (l.map (Value.int .i64) ++ [.int .i64 x])) : Row w B v' (l ++ [x]) := by
  unfold Row
  simpa using h

theorem drop_getD (l : List Int) (j : Nat) (hj : j < l.length) : l.drop j = l.getD j 0 :: l.drop (j + 1) := by
  rw [List.drop_eq_getElem_cons hj]
  simp [List.getD, hj]
end Go.Proofs.YthklnfanbegecacDoor
