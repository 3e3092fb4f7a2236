/- Slices of elements that the call itself makes; impl.field.elements by a contract. -/
import Derived.Test.YthklnfanbegecabDoorJ
import Derived.Test.YthklnfanbegecabDoorM
import Derived.Test.YthklnfanbegecabDoorD
namespace Go.Proofs.YthklnfanbegecabDoor
open Go.RowKit
theorem Tryd.infoE : (Tryd.prog.info? 46).map (fun i => (i.zero, i.size, i.bytes)) = some (some (.agg #[.int .i64 0, .int .i64 0, .int .i64 0, .int .i64 0, .int .i64 0, .int .i64 0, .int .i64 0]), 7, 56) := by kernel_rfl
/-- The cells of the first m elements of a slice: element j has the number f j. -/
def Els (w : World) (g : Nat) (q : Int) (f : Nat → Int) (m : Nat) : Prop := ∀ j, j < m →
  w.cell? ⟨g, j * 7, none⟩ = some (.int .i64 q) ∧ w.cell? ⟨g, j * 7 + 1, none⟩ = some (.int .i64 (pr q)) ∧ w.cell? ⟨g, j * 7 + 2, none⟩ = some (.int .i64 (pl q)) ∧
  w.cell? ⟨g, j * 7 + 3, none⟩ = some (.int .i64 (dg q (f j) 0)) ∧ w.cell? ⟨g, j * 7 + 4, none⟩ = some (.int .i64 (dg q (f j) 1)) ∧ w.cell? ⟨g, j * 7 + 5, none⟩ = some (.int .i64 (dg q (f j) 2)) ∧ w.cell? ⟨g, j * 7 + 6, none⟩ = some (.int .i64 (dg q (f j) 3))
/-- The block of a slice of n elements. -/
def Blk (w : World) (g n : Nat) : Prop := ∃ cur, w.heap[g]? = some (.cells cur 46 (0, 0)) ∧ cur.size = n * 7

/-- Seven stores: element i of a slice. -/
abbrev put7i (w : World) (g i : Nat) (q a : Int) : World :=
  ((((((w.setCell ⟨g, i * 7, none⟩ (.int .i64 q)).setCell ⟨g, i * 7 + 1, none⟩ (.int .i64 (pr q))).setCell ⟨g, i * 7 + 2, none⟩ (.int .i64 (pl q))).setCell ⟨g, i * 7 + 3, none⟩ (.int .i64 (dg q a 0))).setCell ⟨g, i * 7 + 4, none⟩ (.int .i64 (dg q a 1))).setCell ⟨g, i * 7 + 5, none⟩ (.int .i64 (dg q a 2))).setCell ⟨g, i * 7 + 6, none⟩ (.int .i64 (dg q a 3))
theorem put7i_other (w : World) (g i : Nat) (q a : Int) (k : Nat) (h : k ≠ g) : (put7i w g i q a).heap[k]? = w.heap[k]? := by
  unfold put7i
  iterate 7 rw [heap_setCell_other _ _ _ _ h]
theorem put7i_below {B : Nat} {w0 w : World} (hb : Below B w0 w) (g : Nat) (h : B ≤ g) (i : Nat) (q a : Int) : Below B w0 (put7i w g i q a) := by
  unfold put7i
  exact ((((((hb.setCell h _).setCell h _).setCell h _).setCell h _).setCell h _).setCell h _).setCell h _
/-- The cells behind the seven stores. -/
def arr7 (cur : Array Value) (i : Nat) (q a : Int) : Array Value :=
  ((((((cur.setIfInBounds (i * 7) (.int .i64 q)).setIfInBounds (i * 7 + 1) (.int .i64 (pr q))).setIfInBounds (i * 7 + 2) (.int .i64 (pl q))).setIfInBounds (i * 7 + 3) (.int .i64 (dg q a 0))).setIfInBounds (i * 7 + 4) (.int .i64 (dg q a 1))).setIfInBounds (i * 7 + 5) (.int .i64 (dg q a 2))).setIfInBounds (i * 7 + 6) (.int .i64 (dg q a 3))
theorem put7i_heap (w : World) (g i : Nat) (q a : Int) (cur : Array Value) (h : w.heap[g]? = some (.cells cur 46 (0, 0))) : (put7i w g i q a).heap[g]? = some (.cells (arr7 cur i q a) 46 (0, 0)) := by
  have h0 := heap_setCell_same w g (i * 7) _ _ (.int .i64 q) h
  have h1 := heap_setCell_same _ g (i * 7 + 1) _ _ (.int .i64 (pr q)) h0
  have h2 := heap_setCell_same _ g (i * 7 + 2) _ _ (.int .i64 (pl q)) h1
  have h3 := heap_setCell_same _ g (i * 7 + 3) _ _ (.int .i64 (dg q a 0)) h2
  have h4 := heap_setCell_same _ g (i * 7 + 4) _ _ (.int .i64 (dg q a 1)) h3
  have h5 := heap_setCell_same _ g (i * 7 + 5) _ _ (.int .i64 (dg q a 2)) h4
  exact heap_setCell_same _ g (i * 7 + 6) _ _ (.int .i64 (dg q a 3)) h5
theorem arr7_size (cur : Array Value) (i : Nat) (q a : Int) : (arr7 cur i q a).size = cur.size := by simp [arr7]
theorem arr7_out (cur : Array Value) (i : Nat) (q a : Int) (o : Nat) (h : o < i * 7 ∨ i * 7 + 6 < o) : (arr7 cur i q a)[o]? = cur[o]? := by
  unfold arr7
  rw [Array.getElem?_setIfInBounds_ne (by omega), Array.getElem?_setIfInBounds_ne (by omega), Array.getElem?_setIfInBounds_ne (by omega), Array.getElem?_setIfInBounds_ne (by omega), Array.getElem?_setIfInBounds_ne (by omega), Array.getElem?_setIfInBounds_ne (by omega), Array.getElem?_setIfInBounds_ne (by omega)]
theorem arr7_in (cur : Array Value) (i : Nat) (q a : Int) (h : i * 7 + 6 < cur.size) :
    (arr7 cur i q a)[i * 7]? = some (.int .i64 q) ∧ (arr7 cur i q a)[i * 7 + 1]? = some (.int .i64 (pr q)) ∧ (arr7 cur i q a)[i * 7 + 2]? = some (.int .i64 (pl q)) ∧ (arr7 cur i q a)[i * 7 + 3]? = some (.int .i64 (dg q a 0)) ∧
    (arr7 cur i q a)[i * 7 + 4]? = some (.int .i64 (dg q a 1)) ∧ (arr7 cur i q a)[i * 7 + 5]? = some (.int .i64 (dg q a 2)) ∧ (arr7 cur i q a)[i * 7 + 6]? = some (.int .i64 (dg q a 3)) := by
  unfold arr7
  refine ⟨?_, ?_, ?_, ?_, ?_, ?_, ?_⟩ <;> simp [Array.getElem?_setIfInBounds] <;> omega
theorem Els.step {w : World} {g n i : Nat} {q : Int} {f : Nat → Int} (hk : Blk w g n) (hi : i < n) (he : Els w g q f i) : Els (put7i w g i q (f i)) g q f (i + 1) ∧ Blk (put7i w g i q (f i)) g n := by
  obtain ⟨cur, hc, hs⟩ := hk
  have hh := put7i_heap w g i q (f i) cur hc
  refine ⟨fun j hj => ?_, ⟨_, hh, by rw [arr7_size]; exact hs⟩⟩
  have hin := arr7_in cur i q (f i) (by omega)
  simp only [cell_of_row _ g _ _ _ (0, 0) hh]
  by_cases e : j = i
  · subst e
    exact hin
  · have hj' : j < i := by omega
    have := he j hj'
    simp only [cell_of_row _ g _ _ _ (0, 0) hc] at this
    rw [arr7_out _ _ _ _ _ (by omega), arr7_out _ _ _ _ _ (by omega), arr7_out _ _ _ _ _ (by omega), arr7_out _ _ _ _ _ (by omega), arr7_out _ _ _ _ _ (by omega), arr7_out _ _ _ _ _ (by omega), arr7_out _ _ _ _ _ (by omega)]
    exact this
theorem Blk.at {w : World} {g n : Nat} (h : Blk w g n) (o : Nat) (ho : o < n * 7) : ∃ v, w.cell? ⟨g, o, none⟩ = some v := by
  obtain ⟨cur, hc, hs⟩ := h
  rw [cell_of_row w g o _ _ (0, 0) hc, Array.getElem?_eq_getElem (by omega)]
  exact ⟨_, rfl⟩
theorem Blk.free {w : World} {g n : Nat} (h : Blk w g n) (o : Nat) : w.frozen? ⟨g, o, none⟩ = false := by
  obtain ⟨cur, hc, _⟩ := h
  exact frozen_of_row w g o _ _ hc
theorem Blk.lt {w : World} {g n : Nat} (h : Blk w g n) : g < w.heap.size := by
  obtain ⟨cur, hc, _⟩ := h
  exact (Array.getElem?_eq_some_iff.1 hc).1

/-- The memory of a sum over a slice of elements between two rounds. -/
structure TS (w0 wr : World) (q x : Int) (f : Nat → Int) (m S g : Nat) : Prop where
  hs : wr.heap[S]? = some (eblk q x)
  hk : Blk wr g m
  he : Els wr g q f m
  bel : Below w0.heap.size w0 wr
  s0 : w0.heap.size ≤ S
  lt : S < g
theorem Els.below {w w' : World} {g m : Nat} {q : Int} {f : Nat → Int} {B : Nat} (h : Els w g q f m) (hb : Below B w w') (hg : g < B) : Els w' g q f m := fun j hj => by
  obtain ⟨hc, _⟩ := bcell hb
  simp only [hc _ _ hg]
  exact h j hj
theorem Blk.below {w w' : World} {g m : Nat} {B : Nat} (h : Blk w g m) (hb : Below B w w') (hg : g < B) : Blk w' g m := by
  obtain ⟨cur, hc, hs⟩ := h
  exact ⟨cur, (hb.block _ hg).trans hc, hs⟩
theorem Els.same {w w' : World} {g m : Nat} {q : Int} {f : Nat → Int} (h : Els w g q f m) (hg : w'.heap[g]? = w.heap[g]?) : Els w' g q f m := fun j hj => by
  have hc : ∀ o, w'.cell? ⟨g, o, none⟩ = w.cell? ⟨g, o, none⟩ := fun o => World.cell?_of_block (a := ⟨g, o, none⟩) hg
  simp only [hc]
  exact h j hj
theorem TS.step {w0 wr w5 : World} {q x : Int} {f : Nat → Int} {m S g : Nat} (h : TS w0 wr q x f m S g) (o : Obj) (hb : Below (wr.alloc o).heap.size (wr.alloc o) w5) (x' : Int) : TS w0 (put7 w5 S q x') q x' f m S g := by
  have hg := h.hk.lt
  have h0 := h.s0
  have h1 := h.lt
  have hs : (wr.alloc o).heap.size = wr.heap.size + 1 := by simp
  rw [hs] at hb
  have hgg : (put7 w5 S q x').heap[g]? = wr.heap[g]? := by
    rw [put7_other _ _ _ _ _ (by omega), hb.block _ (by omega), Below.heap_alloc _ _ _ hg]
  refine ⟨put7_same _ _ _ _ _ _ _ _ _ _ _ (by rw [hb.block _ (by omega), Below.heap_alloc _ _ _ (by omega)]; exact h.hs), ?_, h.he.same hgg, ?_, h0, h1⟩
  · obtain ⟨cur, hc, hz⟩ := h.hk
    exact ⟨cur, hgg.trans hc, hz⟩
  · exact put7_below ((h.bel.alloc (by omega) _).trans (hb.mono (by omega))) _ h0 _ _
theorem TS.drew {w0 wr : World} {q x : Int} {f : Nat → Int} {m S g : Nat} (h : TS w0 wr q x f m S g) : TS w0 wr.drew q x f m S g := ⟨h.1, h.2, h.3, h.4.drew, h.5, h.6⟩
theorem Blk.same {w w' : World} {g m : Nat} (h : Blk w g m) (hg : w'.heap[g]? = w.heap[g]?) : Blk w' g m := by
  obtain ⟨cur, hc, hs⟩ := h
  exact ⟨cur, hg.trans hc, hs⟩

end Go.Proofs.YthklnfanbegecabDoor
