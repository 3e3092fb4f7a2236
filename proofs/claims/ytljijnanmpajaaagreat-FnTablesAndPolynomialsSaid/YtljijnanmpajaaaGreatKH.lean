/- A bundle of texts: EA HI. -/
import Derived.Test.YtljijnanmpajaaaGreatKE
import Derived.Test.YtljijnanmpajaaaGreatKF
import Derived.Test.YtljijnanmpajaaaGreatKC
namespace Go.Proofs.YtljijnanmpajaaaGreat
open Go.RowKit
theorem Tryz.infoE : (Tryz.prog.info? 67).map (fun i => (i.zero, i.size, i.bytes)) = some (some (.agg #[.int .i64 0, .int .i64 0, .int .i64 0, .int .i64 0, .int .i64 0, .int .i64 0, .int .i64 0]), 7, 56) := by kernel_rfl
/-- The cells of the first m elements of a slice: element j has the number f j. -/
def Els (w : World) (g : Nat) (q : Int) (f : Nat → Int) (m : Nat) : Prop := ∀ j, j < m →
  w.cell? ⟨g, j * 7, none⟩ = some (.int .i64 q) ∧ w.cell? ⟨g, j * 7 + 1, none⟩ = some (.int .i64 (pr q)) ∧ w.cell? ⟨g, j * 7 + 2, none⟩ = some (.int .i64 (pl q)) ∧
  w.cell? ⟨g, j * 7 + 3, none⟩ = some (.int .i64 (dg q (f j) 0)) ∧ w.cell? ⟨g, j * 7 + 4, none⟩ = some (.int .i64 (dg q (f j) 1)) ∧ w.cell? ⟨g, j * 7 + 5, none⟩ = some (.int .i64 (dg q (f j) 2)) ∧ w.cell? ⟨g, j * 7 + 6, none⟩ = some (.int .i64 (dg q (f j) 3))
/-- The block of a slice of n elements. -/
def Blk (w : World) (g n : Nat) : Prop := ∃ cur, w.heap[g]? = some (.cells cur 67 (0, 0)) ∧ cur.size = n * 7

/-- Seven stores: element i of a slice. -/
abbrev put7i (w : World) (g i : Nat) (q a : Int) : World :=
  ((((((w.setCell ⟨g, i * 7, none⟩ (.int .i64 q)).setCell ⟨g, i * 7 + 1, none⟩ (.int .i64 (pr q))).setCell ⟨g, i * 7 + 2, none⟩ (.int .i64 (pl q))).setCell ⟨g, i * 7 + 3, none⟩ (.int .i64 (dg q a 0))).setCell ⟨g, i * 7 + 4, none⟩ (.int .i64 (dg q a 1))).setCell ⟨g, i * 7 + 5, none⟩ (.int .i64 (dg q a 2))).setCell ⟨g, i * 7 + 6, none⟩ (.int .i64 (dg q a 3))
theorem put7i_other (w : World) (g i : Nat) (q a : Int) (k : Nat) (h : k ≠ g) : (put7i w g i q a).heap[k]? = w.heap[k]? := by
  unfold put7i
  iterate 7 rw [heap_setCell_other _ _ _ _ h]
theorem put7i_below {B : Nat} {w0 w : World} (hb : Below B w0 w) (g : Nat) (h : B ≤ g) (i : Nat) (q a : Int) : Below B w0 (put7i w g i q a) := by
  unfold put7i
  exact ((((((hb.setCell h _).setCell h _).setCell h _).setCell h _).setCell h _).setCell h _).setCell h _
/-- The cells behind the seven stores. -/
def arr7 (cur : Array Value) (i : Nat) (q a : Int) : Array Value :=
  ((((((cur.setIfInBounds (i * 7) (.int .i64 q)).setIfInBounds (i * 7 + 1) (.int .i64 (pr q))).setIfInBounds (i * 7 + 2) (.int .i64 (pl q))).setIfInBounds (i * 7 + 3) (.int .i64 (dg q a 0))).setIfInBounds (i * 7 + 4) (.int .i64 (dg q a 1))).setIfInBounds (i * 7 + 5) (.int .i64 (dg q a 2))).setIfInBounds (i * 7 + 6) (.int .i64 (dg q a 3))
theorem put7i_heap (w : World) (g i : Nat) (q a : Int) (cur : Array Value) (h : w.heap[g]? = some (.cells cur 67 (0, 0))) : (put7i w g i q a).heap[g]? = some (.cells (arr7 cur i q a) 67 (0, 0)) := by
  have h0 := heap_setCell_same w g (i * 7) _ _ (.int .i64 q) h
  have h1 := heap_setCell_same _ g (i * 7 + 1) _ _ (.int .i64 (pr q)) h0
  have h2 := heap_setCell_same _ g (i * 7 + 2) _ _ (.int .i64 (pl q)) h1
  have h3 := heap_setCell_same _ g (i * 7 + 3) _ _ (.int .i64 (dg q a 0)) h2
  have h4 := heap_setCell_same _ g (i * 7 + 4) _ _ (.int .i64 (dg q a 1)) h3
  have h5 := heap_setCell_same _ g (i * 7 + 5) _ _ (.int .i64 (dg q a 2)) h4
  exact heap_setCell_same _ g (i * 7 + 6) _ _ (.int .i64 (dg q a 3)) h5
theorem arr7_size (cur : Array Value) (i : Nat) (q a : Int) : (arr7 cur i q a).size = cur.size := by simp [arr7]
theorem arr7_out (cur : Array Value) (i : Nat) (q a : Int) (o : Nat) (h : o < i * 7 ∨ i * 7 + 6 < o) : (arr7 cur i q a)[o]? = cur[o]? := by
  unfold arr7
  rw [Array.getElem?_setIfInBounds_ne (by omega), Array.getElem?_setIfInBounds_ne (by omega), Array.getElem?_setIfInBounds_ne (by omega), Array.getElem?_setIfInBounds_ne (by omega), Array.getElem?_setIfInBounds_ne (by omega), Array.getElem?_setIfInBounds_ne (by omega), Array.getElem?_setIfInBounds_ne (by omega)]
theorem arr7_in (cur : Array Value) (i : Nat) (q a : Int) (h : i * 7 + 6 < cur.size) :
    (arr7 cur i q a)[i * 7]? = some (.int .i64 q) ∧ (arr7 cur i q a)[i * 7 + 1]? = some (.int .i64 (pr q)) ∧ (arr7 cur i q a)[i * 7 + 2]? = some (.int .i64 (pl q)) ∧ (arr7 cur i q a)[i * 7 + 3]? = some (.int .i64 (dg q a 0)) ∧
    (arr7 cur i q a)[i * 7 + 4]? = some (.int .i64 (dg q a 1)) ∧ (arr7 cur i q a)[i * 7 + 5]? = some (.int .i64 (dg q a 2)) ∧ (arr7 cur i q a)[i * 7 + 6]? = some (.int .i64 (dg q a 3)) := by
  unfold arr7
  refine ⟨?_, ?_, ?_, ?_, ?_, ?_, ?_⟩ <;> simp [Array.getElem?_setIfInBounds] <;> omega
theorem Els.step {w : World} {g n i : Nat} {q : Int} {f : Nat → Int} (hk : Blk w g n) (hi : i < n) (he : Els w g q f i) : Els (put7i w g i q (f i)) g q f (i + 1) ∧ Blk (put7i w g i q (f i)) g n := by
  obtain ⟨cur, hc, hs⟩ := hk
  have hh := put7i_heap w g i q (f i) cur hc
  refine ⟨fun j hj => ?_, ⟨_, hh, by rw [arr7_size]; exact hs⟩⟩
  have hin := arr7_in cur i q (f i) (by omega)
  simp only [cell_of_row _ g _ _ _ (0, 0) hh]
  by_cases e : j = i
  · subst e
    exact hin
  · have hj' : j < i := by omega
    have := he j hj'
    simp only [cell_of_row _ g _ _ _ (0, 0) hc] at this
    rw [arr7_out _ _ _ _ _ (by omega), arr7_out _ _ _ _ _ (by omega), arr7_out _ _ _ _ _ (by omega), arr7_out _ _ _ _ _ (by omega), arr7_out _ _ _ _ _ (by omega), arr7_out _ _ _ _ _ (by omega), arr7_out _ _ _ _ _ (by omega)]
    exact this
theorem Blk.at {w : World} {g n : Nat} (h : Blk w g n) (o : Nat) (ho : o < n * 7) : ∃ v, w.cell? ⟨g, o, none⟩ = some v := by
  obtain ⟨cur, hc, hs⟩ := h
  rw [cell_of_row w g o _ _ (0, 0) hc, Array.getElem?_eq_getElem (by omega)]
  exact ⟨_, rfl⟩
theorem Blk.free {w : World} {g n : Nat} (h : Blk w g n) (o : Nat) : w.frozen? ⟨g, o, none⟩ = false := by
  obtain ⟨cur, hc, _⟩ := h
  exact frozen_of_row w g o _ _ hc
theorem Blk.lt {w : World} {g n : Nat} (h : Blk w g n) : g < w.heap.size := by
  obtain ⟨cur, hc, _⟩ := h
  exact (Array.getElem?_eq_some_iff.1 hc).1

/-- The memory of a sum over a slice of elements between two rounds. -/
structure TS (w0 wr : World) (q x : Int) (f : Nat → Int) (m S g : Nat) : Prop where
  hs : wr.heap[S]? = some (eblk q x)
  hk : Blk wr g m
  he : Els wr g q f m
  bel : Below w0.heap.size w0 wr
  s0 : w0.heap.size ≤ S
  lt : S < g
theorem Els.below {w w' : World} {g m : Nat} {q : Int} {f : Nat → Int} {B : Nat} (h : Els w g q f m) (hb : Below B w w') (hg : g < B) : Els w' g q f m := fun j hj => by
  obtain ⟨hc, _⟩ := bcell hb
  simp only [hc _ _ hg]
  exact h j hj
theorem Blk.below {w w' : World} {g m : Nat} {B : Nat} (h : Blk w g m) (hb : Below B w w') (hg : g < B) : Blk w' g m := by
  obtain ⟨cur, hc, hs⟩ := h
  exact ⟨cur, (hb.block _ hg).trans hc, hs⟩
theorem Els.same {w w' : World} {g m : Nat} {q : Int} {f : Nat → Int} (h : Els w g q f m) (hg : w'.heap[g]? = w.heap[g]?) : Els w' g q f m := fun j hj => by
  have hc : ∀ o, w'.cell? ⟨g, o, none⟩ = w.cell? ⟨g, o, none⟩ := fun o => World.cell?_of_block (a := ⟨g, o, none⟩) hg
  simp only [hc]
  exact h j hj
theorem TS.step {w0 wr w5 : World} {q x : Int} {f : Nat → Int} {m S g : Nat} (h : TS w0 wr q x f m S g) (o : Obj) (hb : Below (wr.alloc o).heap.size (wr.alloc o) w5) (x' : Int) : TS w0 (put7 w5 S q x') q x' f m S g := by
  have hg := h.hk.lt
  have h0 := h.s0
  have h1 := h.lt
  have hs : (wr.alloc o).heap.size = wr.heap.size + 1 := by simp
  rw [hs] at hb
  have hgg : (put7 w5 S q x').heap[g]? = wr.heap[g]? := by
    rw [put7_other _ _ _ _ _ (by omega), hb.block _ (by omega), Below.heap_alloc _ _ _ hg]
  refine ⟨put7_same _ _ _ _ _ _ _ _ _ _ _ (by rw [hb.block _ (by omega), Below.heap_alloc _ _ _ (by omega)]; exact h.hs), ?_, h.he.same hgg, ?_, h0, h1⟩
  · obtain ⟨cur, hc, hz⟩ := h.hk
    exact ⟨cur, hgg.trans hc, hz⟩
  · exact put7_below ((h.bel.alloc (by omega) _).trans (hb.mono (by omega))) _ h0 _ _
theorem TS.drew {w0 wr : World} {q x : Int} {f : Nat → Int} {m S g : Nat} (h : TS w0 wr q x f m S g) : TS w0 wr.drew q x f m S g := ⟨h.1, h.2, h.3, h.4.drew, h.5, h.6⟩
theorem Blk.same {w w' : World} {g m : Nat} (h : Blk w g m) (hg : w'.heap[g]? = w.heap[g]?) : Blk w' g m := by
  obtain ⟨cur, hc, hs⟩ := h
  exact ⟨cur, hg.trans hc, hs⟩

set_option maxHeartbeats 1000000 in
/-- impl.field.elements. -/
theorem elements_any (q : Int) (w : World) (h : isSz q = true) :
    Calls Tryz.prog 165 #[.agg #[.int .i64 q, .int .i64 (pr q), .int .i64 (pl q)]] w fun e w' => ∃ g cap, e = .returned (.slice (some ⟨g, 0, none⟩) q.toNat cap) ∧ w.heap.size ≤ g ∧ Blk w' g q.toNat ∧ Els w' g q (fun j => (j : Int)) q.toNat ∧ Below w.heap.size w w' := by
  obtain ⟨i0, hi, iz0, iz1, iz2⟩ := info_parts Tryz.infoE
  have hq := isSz_le q h
  have HE := Lib.hid (fun (n : Nat) w (h2 : (n : Int) < q) => elementE q (n : Int) w h (by omega) h2)
  obtain ⟨m, hm⟩ := Int.eq_ofNat_of_zero_le (show 0 ≤ q by omega)
  subst hm
  rw [Int.toNat_natCast]
  clear h
  go_enter Tryz.func165, Tryz.ntmps165
  go_wp2_with (at_make; go_must (refine wpList_make_full _ rfl _ _ 58 rfl w.heap.size 67 i0 (.agg #[.int .i64 0, .int .i64 0, .int .i64 0, .int .i64 0, .int .i64 0, .int .i64 0, .int .i64 0]) 7 Tryz.underlying58 hi iz0 iz1 .i64 .i64 _ _ m rfl rfl rfl rfl ?c3 ?c4 ?c5 ?_))
  case c3 => rw [iz2]; omega
  case c4 => unfold maxLen; omega
  case c5 => simp
  intro w1 hown hgrow
  have hblk : Blk w1 (w.heap.size + 1) m := by
    rcases hown.2 with ⟨hx, _⟩ | ⟨g, cap, cur, hx, _, hh, _, _, hsz, _⟩
    · simp at hx
    · simp at hx
      obtain ⟨rfl, rfl⟩ := hx
      exact ⟨cur, hh, hsz⟩
  have hf : w1.heap[w.heap.size]? = some (.cells #[.int .i64 (m : Int), .int .i64 (pr (m : Int)), .int .i64 (pl (m : Int))] 57) := by
    rw [hgrow.block _ (by simp) (by simp), heap_alloc_new]
  have hb : Below w.heap.size w w1 := ((Below.refl _ _).alloc (Nat.le_refl _) _).grown hgrow (by simp) (fun k hk => by cases hk)
  have HB1 := Lib.hid hblk
  have HF1 := Lib.hid hf
  have HW1 := Lib.hid hb
  clear hown hgrow hblk hf hb
  go_wp2_with fail
  go_loopw [10] (fun vi wr => ∃ i : Nat, i ≤ m ∧ vi = .int .i64 i ∧ wr.heap[w.heap.size]? = some (.cells #[.int .i64 (m : Int), .int .i64 (pr (m : Int)), .int .i64 (pl (m : Int))] 57) ∧ Blk wr (w.heap.size + 1) m ∧ Els wr (w.heap.size + 1) (m : Int) (fun j => (j : Int)) i ∧ Below w.heap.size w wr) (fun vi _ => m - (intOf vi).toNat)
  case atStart => exact ⟨0, Nat.zero_le _, rfl, HF1.out, HB1.out, fun j hj => by omega, HW1.out⟩
  case round =>
    obtain ⟨i, hi, rfl, hf, hk, he, hb⟩ := hrel
    have HF := Lib.hid hf; clear hf
    have HK := Lib.hid hk; clear hk
    have HEl := Lib.hid he; clear he
    have HB := Lib.hid hb; clear hb
    by_cases hlt : i < m
    · have f0 : wr.cell? ⟨w.heap.size, 0, none⟩ = some (.int .i64 (m : Int)) := by rw [cell_of_row wr _ _ _ _ (0, 0) HF.out]; rfl
      have f1 : wr.cell? ⟨w.heap.size, 1, none⟩ = some (.int .i64 (pr (m : Int))) := by rw [cell_of_row wr _ _ _ _ (0, 0) HF.out]; rfl
      have f2 : wr.cell? ⟨w.heap.size, 2, none⟩ = some (.int .i64 (pl (m : Int))) := by rw [cell_of_row wr _ _ _ _ (0, 0) HF.out]; rfl
      go_wp2_with fail
      refine (HE.out i _ (by omega)).mono ?_
      rintro e w2 ⟨rfl, hb2⟩
      have hlt1 := HK.out.lt
      have hk2 : Blk w2 (w.heap.size + 1) m := by obtain ⟨cur, hc, hs⟩ := HK.out; exact ⟨cur, (hb2.block _ hlt1).trans hc, hs⟩
      have he2 : Els w2 (w.heap.size + 1) (m : Int) (fun j => (j : Int)) i := fun j hj => by
        have := HEl.out j hj
        obtain ⟨hc, _⟩ := bcell hb2
        simp only [hc _ _ hlt1]
        exact this
      have hf2 := (hb2.block w.heap.size (by omega)).trans HF.out
      have HB2 := Lib.hid (HB.out.trans (hb2.mono (by omega)))
      clear hb2
      obtain ⟨x0, c0⟩ := hk2.at (i * 7) (by omega)
      obtain ⟨x1, c1⟩ := hk2.at (i * 7 + 1) (by omega)
      obtain ⟨x2, c2⟩ := hk2.at (i * 7 + 2) (by omega)
      obtain ⟨x3, c3⟩ := hk2.at (i * 7 + 3) (by omega)
      obtain ⟨x4, c4⟩ := hk2.at (i * 7 + 4) (by omega)
      obtain ⟨x5, c5⟩ := hk2.at (i * 7 + 5) (by omega)
      obtain ⟨x6, c6⟩ := hk2.at (i * 7 + 6) (by omega)
      have fr := hk2.free
      have HST := Lib.hid (Els.step (f := fun j => (j : Int)) hk2 hlt he2)
      have HF2 := Lib.hid hf2
      clear hk2 he2 hf2
      go_wp2
      go_roundw
      case rel =>
        refine ⟨i + 1, by omega, by go_num, ?_, HST.out.2, HST.out.1, put7i_below HB2.out _ (by omega) _ _ _⟩
        exact (put7i_other _ _ _ _ _ _ (by omega)).trans HF2.out
      case measure => simp [intOf]; omega
    · obtain rfl : m = i := by omega
      go_wp2
      go_ret
      exact ⟨_, _, rfl, by omega, HK.out, HEl.out, HB.out⟩
/-- v is a slice of n elements, told by f. -/
def Se (w : World) (v : Value) (q : Int) (f : Nat → Int) (n : Nat) : Prop := ∃ g cap, v = .slice (some ⟨g, 0, none⟩) n cap ∧ g < w.heap.size ∧ Els w g q f n
theorem Se.below {w w' : World} {v : Value} {q : Int} {f : Nat → Int} {n B : Nat} (h : Se w v q f n) (hb : Below B w w') (hB : w.heap.size ≤ B) : Se w' v q f n := by
  obtain ⟨g, cap, rfl, hg, he⟩ := h
  exact ⟨g, cap, rfl, by have := hb.size; omega, he.below hb (by omega)⟩
theorem Se.congr {w : World} {v : Value} {q : Int} {f f' : Nat → Int} {n : Nat} (h : Se w v q f n) (hf : ∀ i, i < n → f i = f' i) : Se w v q f' n := by
  obtain ⟨g, cap, rfl, hg, he⟩ := h
  exact ⟨g, cap, rfl, hg, fun j hj => by rw [← hf j hj]; exact he j hj⟩

set_option maxHeartbeats 1000000 in
/-- impl.listOf at impl.mapped[int,impl.element]$1. -/
theorem listOf_IE (q : Int) (n : Nat) (f : Nat → Int) (A0 A1 : Nat) (w : World) (hn : n ≤ 1000) (HX : ∀ (i : Nat) w', i < n → Below w.heap.size w w' → Calls Tryz.prog 172 #[.int .i64 i, .pointer (some ⟨A0, 0, none⟩), .pointer (some ⟨A1, 0, none⟩)] w' fun e w'' => e = .returned (elE q (f i)) ∧ Below w'.heap.size w' w'') :
    Calls Tryz.prog 171 #[.int .i64 n, .func (.func 172) #[] #[.pointer (some ⟨A0, 0, none⟩), .pointer (some ⟨A1, 0, none⟩)]] w fun e w' => e = .returned (.slice (some ⟨w.heap.size, 0, none⟩) n n) ∧ Blk w' w.heap.size n ∧ Els w' w.heap.size q f n ∧ Below w.heap.size w w' := by
  obtain ⟨i0, hi, iz0, iz1, iz2⟩ := info_parts Tryz.infoE
  have HXX := Lib.hid HX; clear HX
  go_enter Tryz.func171, Tryz.ntmps171
  go_wp2_with (at_make; go_must (refine wpList_make_full _ rfl _ _ 58 rfl w.heap.size 67 i0 (.agg #[.int .i64 0, .int .i64 0, .int .i64 0, .int .i64 0, .int .i64 0, .int .i64 0, .int .i64 0]) 7 Tryz.underlying58 hi iz0 iz1 .i64 .i64 _ _ n rfl rfl rfl rfl ?c3 ?c4 ?c5 ?_))
  case c3 => rw [iz2]; omega
  case c4 => unfold maxLen; omega
  case c5 => simp
  intro w1 hown hgrow
  have hblk : Blk w1 w.heap.size n := by
    rcases hown.2 with ⟨hx, _⟩ | ⟨g, cap, cur, hx, _, hh, _, _, hsz, _⟩
    · simp at hx
    · simp at hx
      obtain ⟨rfl, rfl⟩ := hx
      exact ⟨cur, hh, hsz⟩
  have hb : Below w.heap.size w w1 := (Below.refl _ _).grown hgrow (Nat.le_refl _) (fun k hk => by cases hk)
  have HB1 := Lib.hid hblk
  have HW1 := Lib.hid hb
  clear hown hgrow hblk hb
  go_wp2_with fail
  go_loopw [11] (fun vi wr => ∃ i : Nat, i ≤ n ∧ vi = .int .i64 i ∧ Blk wr w.heap.size n ∧ Els wr w.heap.size q f i ∧ Below w.heap.size w wr) (fun vi _ => n - (intOf vi).toNat)
  case atStart => exact ⟨0, Nat.zero_le _, rfl, HB1.out, fun j hj => by omega, HW1.out⟩
  case round =>
    obtain ⟨i, hi, rfl, hk, he, hb⟩ := hrel
    have HK := Lib.hid hk; clear hk
    have HEl := Lib.hid he; clear he
    have HB := Lib.hid hb; clear hb
    by_cases hlt : i < n
    · have HX' := Lib.hid (HXX.out i _ hlt HB.out)
      have hlt1 := HK.out.lt
      go_wp2_with fail
      refine HX'.out.mono ?_
      rintro e w2 ⟨rfl, hb2⟩
      have hk2 : Blk w2 w.heap.size n := HK.out.below hb2 hlt1
      have he2 : Els w2 w.heap.size q f i := HEl.out.below hb2 hlt1
      have HB2 := Lib.hid (HB.out.trans (hb2.mono HB.out.size))
      clear hb2
      obtain ⟨x0, c0⟩ := hk2.at (i * 7) (by omega)
      obtain ⟨x1, c1⟩ := hk2.at (i * 7 + 1) (by omega)
      obtain ⟨x2, c2⟩ := hk2.at (i * 7 + 2) (by omega)
      obtain ⟨x3, c3⟩ := hk2.at (i * 7 + 3) (by omega)
      obtain ⟨x4, c4⟩ := hk2.at (i * 7 + 4) (by omega)
      obtain ⟨x5, c5⟩ := hk2.at (i * 7 + 5) (by omega)
      obtain ⟨x6, c6⟩ := hk2.at (i * 7 + 6) (by omega)
      have fr := hk2.free
      have HST := Lib.hid (Els.step (f := f) hk2 hlt he2)
      clear hk2 he2
      generalize f i = x at *
      go_wp2
      go_roundw
      case rel => exact ⟨i + 1, by omega, by go_num, HST.out.2, HST.out.1, put7i_below HB2.out _ (Nat.le_refl _) _ _ _⟩
      case measure => simp [intOf]; omega
    · obtain rfl : n = i := by omega
      go_wp2
      go_ret
      exact ⟨rfl, HK.out, HEl.out, HB.out⟩

set_option maxHeartbeats 1000000 in
/-- impl.listOf at impl.mapped[impl.element,int]$1. -/
theorem listOf_EI (n : Nat) (f : Nat → Int) (A0 A1 : Nat) (w : World) (hn : n ≤ 1000) (HX : ∀ (i : Nat) w', i < n → Below w.heap.size w w' → Calls Tryz.prog 163 #[.int .i64 i, .pointer (some ⟨A0, 0, none⟩), .pointer (some ⟨A1, 0, none⟩)] w' fun e w'' => e = .returned (.int .i64 (f i)) ∧ Below w'.heap.size w' w'') :
    Calls Tryz.prog 135 #[.int .i64 n, .func (.func 163) #[] #[.pointer (some ⟨A0, 0, none⟩), .pointer (some ⟨A1, 0, none⟩)]] w fun e w' => ∃ v, e = .returned v ∧ Row w' w.heap.size v (fl f n) ∧ Below w.heap.size w w' := by
  obtain ⟨i0, hi, iz0, iz1, iz2⟩ := info_parts Tryz.infoI
  have HXX := Lib.hid HX; clear HX
  go_enter Tryz.func135, Tryz.ntmps135
  go_wp2_with (at_make; refine wpList_make_full _ rfl _ _ 24 rfl w.heap.size 3 i0 (.int .i64 0) 1 Tryz.underlying24 hi iz0 iz1 .i64 .i64 _ _ n rfl rfl rfl rfl ?c3 ?c4 ?c5 ?_)
  case c3 => rw [iz2]; omega
  case c4 => unfold maxLen; omega
  case c5 => omega
  intro w1 hown hgrow
  have HR := Lib.hid (Row.madeF f hown)
  have HB := Lib.hid ((Below.refl w.heap.size w).grown hgrow (Nat.le_refl _) (fun k hk => by cases hk))
  clear hown hgrow
  go_wp2_with fail
  go_loopw [11] (fun vi wr => ∃ i : Nat, i ≤ n ∧ vi = .int .i64 i ∧ Row wr w.heap.size (.slice (some ⟨w.heap.size, 0, none⟩) n n) (fl (part0 f i) n) ∧ w.heap.size < wr.heap.size ∧ Below w.heap.size w wr) (fun vi _ => n - (intOf vi).toNat)
  case atStart =>
    refine ⟨0, Nat.zero_le _, rfl, HR.out, ?_, HB.out⟩
    have := HR.out.lt w.heap.size rfl
    omega
  case round =>
    obtain ⟨i, hi, rfl, hr, hgl, hbel⟩ := hrel
    by_cases hlt : i < n
    · have HX' := Lib.hid (HXX.out i _ hlt hbel)
      have HR := Lib.hid hr; clear hr
      have HBL := Lib.hid hbel; clear hbel
      go_wp2_with fail
      refine HX'.out.mono ?_
      rintro e w2 ⟨rfl, hb2⟩
      have hr := HR.out.below hb2
      have HB2 := Lib.hid (HBL.out.trans (hb2.mono HBL.out.size))
      have hgl2 : w.heap.size < w2.heap.size := by have := hb2.size; omega
      clear hb2
      have e2 := Row.cell (l := fl (part0 f i) n) (cap := n) (by rw [fl_len]; exact hr) i (by rw [fl_len]; exact hlt)
      have f2 := hr.frozen (by rw [fl_len]) i
      have HR' := Lib.hid (hr.store (by rw [fl_len]) i (f i))
      clear hr
      generalize (fl (part0 f i) n).getD i 0 = u at *
      have HS := Lib.hid (part0_step f i)
      generalize f i = x at *
      go_wp2
      go_roundw
      case rel =>
        refine ⟨i + 1, by omega, by go_num, ?_, by simpa using hgl2, HB2.out.setCell (Nat.le_refl _) _⟩
        rw [← HS.out, ← fl_set]
        exact HR'.out
      case measure => simp [intOf]; omega
    · obtain rfl : n = i := by omega
      go_wp2
      go_ret
      refine ⟨_, rfl, ?_, hbel⟩
      rw [← part0_all]
      exact hr

set_option maxHeartbeats 1000000 in
/-- impl.listOf at impl.mapped[impl.element,impl.element]$1. -/
theorem listOf_EE (q : Int) (n : Nat) (f : Nat → Int) (A0 A1 : Nat) (w : World) (hn : n ≤ 1000) (HX : ∀ (i : Nat) w', i < n → Below w.heap.size w w' → Calls Tryz.prog 201 #[.int .i64 i, .pointer (some ⟨A0, 0, none⟩), .pointer (some ⟨A1, 0, none⟩)] w' fun e w'' => e = .returned (elE q (f i)) ∧ Below w'.heap.size w' w'') :
    Calls Tryz.prog 171 #[.int .i64 n, .func (.func 201) #[] #[.pointer (some ⟨A0, 0, none⟩), .pointer (some ⟨A1, 0, none⟩)]] w fun e w' => e = .returned (.slice (some ⟨w.heap.size, 0, none⟩) n n) ∧ Blk w' w.heap.size n ∧ Els w' w.heap.size q f n ∧ Below w.heap.size w w' := by
  obtain ⟨i0, hi, iz0, iz1, iz2⟩ := info_parts Tryz.infoE
  have HXX := Lib.hid HX; clear HX
  go_enter Tryz.func171, Tryz.ntmps171
  go_wp2_with (at_make; go_must (refine wpList_make_full _ rfl _ _ 58 rfl w.heap.size 67 i0 (.agg #[.int .i64 0, .int .i64 0, .int .i64 0, .int .i64 0, .int .i64 0, .int .i64 0, .int .i64 0]) 7 Tryz.underlying58 hi iz0 iz1 .i64 .i64 _ _ n rfl rfl rfl rfl ?c3 ?c4 ?c5 ?_))
  case c3 => rw [iz2]; omega
  case c4 => unfold maxLen; omega
  case c5 => simp
  intro w1 hown hgrow
  have hblk : Blk w1 w.heap.size n := by
    rcases hown.2 with ⟨hx, _⟩ | ⟨g, cap, cur, hx, _, hh, _, _, hsz, _⟩
    · simp at hx
    · simp at hx
      obtain ⟨rfl, rfl⟩ := hx
      exact ⟨cur, hh, hsz⟩
  have hb : Below w.heap.size w w1 := (Below.refl _ _).grown hgrow (Nat.le_refl _) (fun k hk => by cases hk)
  have HB1 := Lib.hid hblk
  have HW1 := Lib.hid hb
  clear hown hgrow hblk hb
  go_wp2_with fail
  go_loopw [11] (fun vi wr => ∃ i : Nat, i ≤ n ∧ vi = .int .i64 i ∧ Blk wr w.heap.size n ∧ Els wr w.heap.size q f i ∧ Below w.heap.size w wr) (fun vi _ => n - (intOf vi).toNat)
  case atStart => exact ⟨0, Nat.zero_le _, rfl, HB1.out, fun j hj => by omega, HW1.out⟩
  case round =>
    obtain ⟨i, hi, rfl, hk, he, hb⟩ := hrel
    have HK := Lib.hid hk; clear hk
    have HEl := Lib.hid he; clear he
    have HB := Lib.hid hb; clear hb
    by_cases hlt : i < n
    · have HX' := Lib.hid (HXX.out i _ hlt HB.out)
      have hlt1 := HK.out.lt
      go_wp2_with fail
      refine HX'.out.mono ?_
      rintro e w2 ⟨rfl, hb2⟩
      have hk2 : Blk w2 w.heap.size n := HK.out.below hb2 hlt1
      have he2 : Els w2 w.heap.size q f i := HEl.out.below hb2 hlt1
      have HB2 := Lib.hid (HB.out.trans (hb2.mono HB.out.size))
      clear hb2
      obtain ⟨x0, c0⟩ := hk2.at (i * 7) (by omega)
      obtain ⟨x1, c1⟩ := hk2.at (i * 7 + 1) (by omega)
      obtain ⟨x2, c2⟩ := hk2.at (i * 7 + 2) (by omega)
      obtain ⟨x3, c3⟩ := hk2.at (i * 7 + 3) (by omega)
      obtain ⟨x4, c4⟩ := hk2.at (i * 7 + 4) (by omega)
      obtain ⟨x5, c5⟩ := hk2.at (i * 7 + 5) (by omega)
      obtain ⟨x6, c6⟩ := hk2.at (i * 7 + 6) (by omega)
      have fr := hk2.free
      have HST := Lib.hid (Els.step (f := f) hk2 hlt he2)
      clear hk2 he2
      generalize f i = x at *
      go_wp2
      go_roundw
      case rel => exact ⟨i + 1, by omega, by go_num, HST.out.2, HST.out.1, put7i_below HB2.out _ (Nat.le_refl _) _ _ _⟩
      case measure => simp [intOf]; omega
    · obtain rfl : n = i := by omega
      go_wp2
      go_ret
      exact ⟨rfl, HK.out, HEl.out, HB.out⟩

set_option maxHeartbeats 1000000 in
/-- impl.listOf at impl.zipped[impl.element]$1. -/
theorem listOf_Z (q : Int) (n : Nat) (f : Nat → Int) (A0 A1 A2 : Nat) (w : World) (hn : n ≤ 1000) (HX : ∀ (i : Nat) w', i < n → Below w.heap.size w w' → Calls Tryz.prog 203 #[.int .i64 i, .pointer (some ⟨A0, 0, none⟩), .pointer (some ⟨A1, 0, none⟩), .pointer (some ⟨A2, 0, none⟩)] w' fun e w'' => e = .returned (elE q (f i)) ∧ Below w'.heap.size w' w'') :
    Calls Tryz.prog 171 #[.int .i64 n, .func (.func 203) #[] #[.pointer (some ⟨A0, 0, none⟩), .pointer (some ⟨A1, 0, none⟩), .pointer (some ⟨A2, 0, none⟩)]] w fun e w' => e = .returned (.slice (some ⟨w.heap.size, 0, none⟩) n n) ∧ Blk w' w.heap.size n ∧ Els w' w.heap.size q f n ∧ Below w.heap.size w w' := by
  obtain ⟨i0, hi, iz0, iz1, iz2⟩ := info_parts Tryz.infoE
  have HXX := Lib.hid HX; clear HX
  go_enter Tryz.func171, Tryz.ntmps171
  go_wp2_with (at_make; go_must (refine wpList_make_full _ rfl _ _ 58 rfl w.heap.size 67 i0 (.agg #[.int .i64 0, .int .i64 0, .int .i64 0, .int .i64 0, .int .i64 0, .int .i64 0, .int .i64 0]) 7 Tryz.underlying58 hi iz0 iz1 .i64 .i64 _ _ n rfl rfl rfl rfl ?c3 ?c4 ?c5 ?_))
  case c3 => rw [iz2]; omega
  case c4 => unfold maxLen; omega
  case c5 => simp
  intro w1 hown hgrow
  have hblk : Blk w1 w.heap.size n := by
    rcases hown.2 with ⟨hx, _⟩ | ⟨g, cap, cur, hx, _, hh, _, _, hsz, _⟩
    · simp at hx
    · simp at hx
      obtain ⟨rfl, rfl⟩ := hx
      exact ⟨cur, hh, hsz⟩
  have hb : Below w.heap.size w w1 := (Below.refl _ _).grown hgrow (Nat.le_refl _) (fun k hk => by cases hk)
  have HB1 := Lib.hid hblk
  have HW1 := Lib.hid hb
  clear hown hgrow hblk hb
  go_wp2_with fail
  go_loopw [11] (fun vi wr => ∃ i : Nat, i ≤ n ∧ vi = .int .i64 i ∧ Blk wr w.heap.size n ∧ Els wr w.heap.size q f i ∧ Below w.heap.size w wr) (fun vi _ => n - (intOf vi).toNat)
  case atStart => exact ⟨0, Nat.zero_le _, rfl, HB1.out, fun j hj => by omega, HW1.out⟩
  case round =>
    obtain ⟨i, hi, rfl, hk, he, hb⟩ := hrel
    have HK := Lib.hid hk; clear hk
    have HEl := Lib.hid he; clear he
    have HB := Lib.hid hb; clear hb
    by_cases hlt : i < n
    · have HX' := Lib.hid (HXX.out i _ hlt HB.out)
      have hlt1 := HK.out.lt
      go_wp2_with fail
      refine HX'.out.mono ?_
      rintro e w2 ⟨rfl, hb2⟩
      have hk2 : Blk w2 w.heap.size n := HK.out.below hb2 hlt1
      have he2 : Els w2 w.heap.size q f i := HEl.out.below hb2 hlt1
      have HB2 := Lib.hid (HB.out.trans (hb2.mono HB.out.size))
      clear hb2
      obtain ⟨x0, c0⟩ := hk2.at (i * 7) (by omega)
      obtain ⟨x1, c1⟩ := hk2.at (i * 7 + 1) (by omega)
      obtain ⟨x2, c2⟩ := hk2.at (i * 7 + 2) (by omega)
      obtain ⟨x3, c3⟩ := hk2.at (i * 7 + 3) (by omega)
      obtain ⟨x4, c4⟩ := hk2.at (i * 7 + 4) (by omega)
      obtain ⟨x5, c5⟩ := hk2.at (i * 7 + 5) (by omega)
      obtain ⟨x6, c6⟩ := hk2.at (i * 7 + 6) (by omega)
      have fr := hk2.free
      have HST := Lib.hid (Els.step (f := f) hk2 hlt he2)
      clear hk2 he2
      generalize f i = x at *
      go_wp2
      go_roundw
      case rel => exact ⟨i + 1, by omega, by go_num, HST.out.2, HST.out.1, put7i_below HB2.out _ (Nat.le_refl _) _ _ _⟩
      case measure => simp [intOf]; omega
    · obtain rfl : n = i := by omega
      go_wp2
      go_ret
      exact ⟨rfl, HK.out, HEl.out, HB.out⟩
end Go.Proofs.YtljijnanmpajaaaGreat
