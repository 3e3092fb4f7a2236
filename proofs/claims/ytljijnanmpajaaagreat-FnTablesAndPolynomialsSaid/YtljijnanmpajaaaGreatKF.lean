/- A bundle of texts: M. -/
import Derived.Deep.RegionWith
import Derived.Test.YtljijnanmpajaaaGreatKE
namespace Go.Proofs.YtljijnanmpajaaaGreat
open Go.RowKit
/-- The block of an element. -/
abbrev eblk (q a : Int) : Obj := .cells #[.int .i64 q, .int .i64 (pr q), .int .i64 (pl q), .int .i64 (dg q a 0), .int .i64 (dg q a 1), .int .i64 (dg q a 2), .int .i64 (dg q a 3)] 67
abbrev zeroblk : Obj := .cells #[.int .i64 0, .int .i64 0, .int .i64 0, .int .i64 0, .int .i64 0, .int .i64 0, .int .i64 0] 67
/-- Seven stores: a whole element. -/
abbrev put7 (w : World) (b : Nat) (q a : Int) : World :=
  ((((((w.setCell ⟨b, 0, none⟩ (.int .i64 q)).setCell ⟨b, 1, none⟩ (.int .i64 (pr q))).setCell ⟨b, 2, none⟩ (.int .i64 (pl q))).setCell ⟨b, 3, none⟩ (.int .i64 (dg q a 0))).setCell ⟨b, 4, none⟩ (.int .i64 (dg q a 1))).setCell ⟨b, 5, none⟩ (.int .i64 (dg q a 2))).setCell ⟨b, 6, none⟩ (.int .i64 (dg q a 3))
theorem put7_other (w : World) (b : Nat) (q a : Int) (k : Nat) (h : k ≠ b) : (put7 w b q a).heap[k]? = w.heap[k]? := by
  unfold put7
  iterate 7 rw [heap_setCell_other _ _ _ _ h]
theorem put7_same (w : World) (b : Nat) (q a : Int) (x0 x1 x2 x3 x4 x5 x6 : Value) (h : w.heap[b]? = some (.cells #[x0, x1, x2, x3, x4, x5, x6] 67 (0, 0))) : (put7 w b q a).heap[b]? = some (eblk q a) := by
  unfold put7
  have h0 := heap_setCell_same w b 0 _ _ (.int .i64 q) h
  have h1 := heap_setCell_same _ b 1 _ _ (.int .i64 (pr q)) h0
  have h2 := heap_setCell_same _ b 2 _ _ (.int .i64 (pl q)) h1
  have h3 := heap_setCell_same _ b 3 _ _ (.int .i64 (dg q a 0)) h2
  have h4 := heap_setCell_same _ b 4 _ _ (.int .i64 (dg q a 1)) h3
  have h5 := heap_setCell_same _ b 5 _ _ (.int .i64 (dg q a 2)) h4
  have h6 := heap_setCell_same _ b 6 _ _ (.int .i64 (dg q a 3)) h5
  rw [h6]
  rfl
theorem put7_below {B : Nat} {w0 w : World} (hb : Below B w0 w) (b : Nat) (h : B ≤ b) (q a : Int) : Below B w0 (put7 w b q a) := by
  unfold put7
  exact ((((((hb.setCell h _).setCell h _).setCell h _).setCell h _).setCell h _).setCell h _).setCell h _
theorem three (w : World) (A B C : Obj) : (((w.alloc A).alloc B).alloc C).heap[w.heap.size]? = some A ∧ (((w.alloc A).alloc B).alloc C).heap[w.heap.size + 1]? = some B ∧ (((w.alloc A).alloc B).alloc C).heap[w.heap.size + 2]? = some C := by
  refine ⟨?_, ?_, ?_⟩
  · rw [Below.heap_alloc _ _ _ (by simp; omega), Below.heap_alloc _ _ _ (by simp), heap_alloc_new]
  · rw [Below.heap_alloc _ _ _ (by simp), show w.heap.size + 1 = (w.alloc A).heap.size from by simp, heap_alloc_new]
  · rw [show w.heap.size + 2 = ((w.alloc A).alloc B).heap.size from by simp, heap_alloc_new]
theorem two (w : World) (A B : Obj) : ((w.alloc A).alloc B).heap[w.heap.size]? = some A ∧ ((w.alloc A).alloc B).heap[w.heap.size + 1]? = some B := by
  refine ⟨?_, ?_⟩
  · rw [Below.heap_alloc _ _ _ (by simp), heap_alloc_new]
  · rw [show w.heap.size + 1 = (w.alloc A).heap.size from by simp, heap_alloc_new]
/-- What the cells of an element's block hold. -/
theorem seven {w : World} {b : Nat} {x0 x1 x2 x3 x4 x5 x6 : Value} (h : w.heap[b]? = some (.cells #[x0, x1, x2, x3, x4, x5, x6] 67 (0, 0))) :
    w.cell? ⟨b, 0, none⟩ = some x0 ∧ w.cell? ⟨b, 1, none⟩ = some x1 ∧ w.cell? ⟨b, 2, none⟩ = some x2 ∧ w.cell? ⟨b, 3, none⟩ = some x3 ∧ w.cell? ⟨b, 4, none⟩ = some x4 ∧ w.cell? ⟨b, 5, none⟩ = some x5 ∧ w.cell? ⟨b, 6, none⟩ = some x6 ∧
    (∀ o, w.frozen? ⟨b, o, none⟩ = false) ∧ b < w.heap.size := by
  refine ⟨?_, ?_, ?_, ?_, ?_, ?_, ?_, fun o => frozen_of_row w b o _ _ h, (Array.getElem?_eq_some_iff.1 h).1⟩ <;> rw [cell_of_row w b _ _ _ (0, 0) h] <;> rfl

/-- The memory of times between two rounds. -/
structure TW (w0 wr : World) (q a b x : Int) (P : Nat) : Prop where
  he : wr.heap[w0.heap.size]? = some (eblk q a)
  ho : wr.heap[w0.heap.size + 1]? = some (eblk q b)
  hr : wr.heap[w0.heap.size + 2]? = some zeroblk
  hp : wr.heap[P]? = some (eblk q x)
  bel : Below w0.heap.size w0 wr
  lt : w0.heap.size + 2 < P
theorem TW.step {w0 wr w5 : World} {q a b x : Int} {P : Nat} (h : TW w0 wr q a b x P) (hb : Below wr.heap.size wr w5) (x' : Int) : TW w0 (put7 w5 P q x') q a b x' P := by
  have hP : P < wr.heap.size := (Array.getElem?_eq_some_iff.1 h.hp).1
  have hl := h.lt
  refine ⟨?_, ?_, ?_, ?_, ?_, hl⟩
  · rw [put7_other _ _ _ _ _ (by omega), hb.block _ (by omega)]; exact h.he
  · rw [put7_other _ _ _ _ _ (by omega), hb.block _ (by omega)]; exact h.ho
  · rw [put7_other _ _ _ _ _ (by omega), hb.block _ (by omega)]; exact h.hr
  · exact put7_same _ _ _ _ _ _ _ _ _ _ _ (by rw [hb.block _ hP]; exact h.hp)
  · exact put7_below (h.bel.trans (hb.mono (by omega))) P (by omega) _ _
theorem TW.drew {w0 wr : World} {q a b x : Int} {P : Nat} (h : TW w0 wr q a b x P) : TW w0 wr.drew q a b x P := ⟨h.1, h.2, h.3, h.4, h.5.drew, h.6⟩

set_option maxHeartbeats 2000000 in
/-- impl.element.times. -/
theorem timesE (q a b : Int) (w : World) (h : isSz q = true) (a0 : 0 ≤ a) (a1 : a < q) (b0 : 0 ≤ b) (b1 : b < q) :
    Calls Tryz.prog 170 #[elE q a, elE q b] w fun e w' => e = .returned (elE q (mulF q a b)) ∧ Below w.heap.size w w' := by
  have hk := plN_bd q h
  have HZ := Lib.hid (fun w => zeroE q w h)
  have HX := Lib.hid (fun n w => timesXE q (tmTo q a b n) w h (tmTo_bd q a b h b0 b1 n).1 (tmTo_bd q a b h b0 b1 n).2)
  have HS := Lib.hid (fun i w => scaledE q b (dg q a i) w h b0 b1 (dg_bd q a i h).1 (dg_bd q a i h).2)
  have HP := Lib.hid (fun n i w => plusE q (tXF q (tmTo q a b n)) (mulF q (dg q a i) b) w h (tXF_bd q _ h (tmTo_bd q a b h b0 b1 n).1 (tmTo_bd q a b h b0 b1 n).2).1 (tXF_bd q _ h (tmTo_bd q a b h b0 b1 n).1 (tmTo_bd q a b h b0 b1 n).2).2
    (mulF_bd q _ b h (dg_bd q a i h).1 (scl_lt q _ h (dg_bd q a i h).2) b0 b1).1 (mulF_bd q _ b h (dg_bd q a i h).1 (scl_lt q _ h (dg_bd q a i h).2) b0 b1).2)
  have HM := Lib.hid (tm_model q a b h a0 a1 b0 b1)
  have HK : Hid (pl q = (plN q : Int)) := Lib.hid rfl
  have HT0 := Lib.hid (fun n => (rfl : tmTo q a b (n + 1) = addF q (tXF q (tmTo q a b n)) (mulF q (dg q a (plN q - 1 - n)) b)))
  clear h a0 a1 b0 b1
  obtain ⟨hk1, hk4⟩ := hk
  have hpl1 : 1 ≤ pl q := by unfold pl; omega
  have hpl4 : pl q ≤ 4 := by unfold pl; omega
  go_enter Tryz.func170, Tryz.ntmps170
  go_wp2_with fail
  refine (HZ.out _).mono ?_
  rintro e w1 ⟨rfl, hb1⟩
  have hw1 : TW w (w1.alloc (eblk q 0)) q a b (tmTo q a b 0) w1.heap.size := by
    have hz := hb1.size
    simp at hz
    refine ⟨?_, ?_, ?_, heap_alloc_new w1 _, ?_, by omega⟩
    · rw [Below.heap_alloc _ _ _ (by omega), hb1.block _ (by simp; omega)]; exact (three _ _ _ _).1
    · rw [Below.heap_alloc _ _ _ (by omega), hb1.block _ (by simp)]; exact (three _ _ _ _).2.1
    · rw [Below.heap_alloc _ _ _ (by omega), hb1.block _ (by simp)]; exact (three _ _ _ _).2.2
    · (repeat' (first | (with_reducible assumption) | (with_reducible exact Below.refl _ _) | (with_reducible refine below_drewN ?_ _) | (with_reducible refine Below.drew ?_) | (with_reducible refine Below.alloc ?_ ?_ _) | (with_reducible refine Below.setCell ?_ ?_ _) | (with_reducible refine Below.trans ?_ (Below.mono (by assumption) ?_)) | (with_reducible exact Nat.le_refl _) | (with_reducible assumption) | omega | (simp; omega) | (simp; done)))
  obtain ⟨hc1, hf1⟩ := bcell hb1; have hz1 := hb1.size; (try simp at hz1); have HB1 := Lib.hid hb1; clear hb1
  have hl0 : w.heap.size < w1.heap.size := by omega
  have hl1 : w.heap.size + 1 < w1.heap.size := by omega
  have hl2 : w.heap.size + 1 + 1 < w1.heap.size := by omega
  have HW := Lib.hid hw1; clear hw1
  go_wp2_with fail
  go_loopw [6] (fun vi wr => ∃ j : Nat, j ≤ plN q ∧ vi = .int .i64 ((j : Int) - 1) ∧ TW w wr q a b (tmTo q a b (plN q - j)) w1.heap.size) (fun vi _ => (intOf vi + 1).toNat)
  case atStart => exact ⟨plN q, Nat.le_refl _, by rw [HK.out], by rw [Nat.sub_self]; exact HW.out⟩
  case round =>
    obtain ⟨j, hj, rfl, ht⟩ := hrel
    clear hc1 hf1
    cases j with
    | zero =>
      obtain ⟨p0, p1, p2, p3, p4, p5, p6, pf, pl'⟩ := seven ht.hp
      obtain ⟨r0, r1, r2, r3, r4, r5, r6, rf, rl⟩ := seven ht.hr
      have hb := ht.bel
      have hlt := ht.lt
      rw [Nat.sub_zero, HM.out] at p3 p4 p5 p6
      clear ht
      have HB := Lib.hid hb; clear hb
      go_wp2_with fail
      refine bodyPost_ret (v := elE q (mulF q a b)) (by simp [results, Tryz.results170, go_sem, r0, r1, r2, r3, r4, r5, r6]) rfl ⟨rfl, ?_⟩
      have hb := HB.out
      (repeat' (first | (with_reducible assumption) | (with_reducible exact Below.refl _ _) | (with_reducible refine below_drewN ?_ _) | (with_reducible refine Below.drew ?_) | (with_reducible refine Below.alloc ?_ ?_ _) | (with_reducible refine Below.setCell ?_ ?_ _) | (with_reducible refine Below.trans ?_ (Below.mono (by assumption) ?_)) | (with_reducible exact Nat.le_refl _) | (with_reducible assumption) | omega | (simp; omega) | (simp; done)))
    | succ j =>
      generalize hx : tmTo q a b (plN q - (j + 1)) = x at *
      have HXE := Lib.hid hx; clear hx
      obtain ⟨e0, e1, e2, e3, e4, e5, e6, ef, el⟩ := seven ht.he
      obtain ⟨o0, o1, o2, o3, o4, o5, o6, of', ol⟩ := seven ht.ho
      obtain ⟨p0, p1, p2, p3, p4, p5, p6, pf, pl'⟩ := seven ht.hp
      have hci : wr.cell? ⟨w.heap.size, 3 + j, none⟩ = some (.int .i64 (dg q a j)) := by
        have : j = 0 ∨ j = 1 ∨ j = 2 ∨ j = 3 := by omega
        rcases this with rfl | rfl | rfl | rfl
        · exact e3
        · exact e4
        · exact e5
        · exact e6
      have hlt := ht.lt
      have HT := Lib.hid ht; clear ht
      clear e0 e1 e2 e3 e4 e5 e6 ef of'
      have hX := HX.out (plN q - (j + 1))
      have hP := HP.out (plN q - (j + 1)) j
      rw [HXE.out] at hX hP
      have HX' := Lib.hid hX; clear hX
      have HP' := Lib.hid hP; clear hP
      have HS' := Lib.hid (HS.out j)
      have hj4 : j < 4 := by omega
      have hji0 : (0 : Int) ≤ (j : Int) := by omega
      have hji4 : (j : Int) < 4 := by omega
      have ej : ((j + 1 : Nat) : Int) - 1 = (j : Int) := by omega
      rw [ej]
      clear ej
      go_wp2_with fail
      go_region_with (first | (go_at_call 204; refine (HX'.out _).mono ?_; rintro e w2 ⟨rfl, hb2⟩; obtain ⟨hc2, hf2⟩ := bcell hb2; (try simp only [World.size_drew] at hc2 hf2); have hz2 := hb2.size; (try simp at hz2); have HB2 := Lib.hid hb2; clear hb2; have l20 : w.heap.size < w2.heap.size := (by omega); have l21 : w.heap.size + 1 < w2.heap.size := (by omega); have l22 : w1.heap.size < w2.heap.size := (by omega)) | (go_at_call 205; refine (HS'.out _).mono ?_; rintro e w3 ⟨rfl, hb3⟩; obtain ⟨hc3, hf3⟩ := bcell hb3; (try simp only [World.size_drew] at hc3 hf3); have hz3 := hb3.size; (try simp at hz3); have HB3 := Lib.hid hb3; clear hb3; have l30 : w.heap.size < w3.heap.size := (by omega); have l31 : w.heap.size + 1 < w3.heap.size := (by omega); have l32 : w1.heap.size < w3.heap.size := (by omega)) | (go_at_call 174; refine (HP'.out _).mono ?_; rintro e w4 ⟨rfl, hb4⟩; obtain ⟨hc4, hf4⟩ := bcell hb4; (try simp only [World.size_drew] at hc4 hf4); have hz4 := hb4.size; (try simp at hz4); have HB4 := Lib.hid hb4; clear hb4; have l40 : w.heap.size < w4.heap.size := (by omega); have l41 : w.heap.size + 1 < w4.heap.size := (by omega); have l42 : w1.heap.size < w4.heap.size := (by omega)))
      all_goals
        go_wp2
        go_roundw
        case rel =>
          refine ⟨j, by omega, rfl, ?_⟩
          have e1 : tmTo q a b (plN q - j) = addF q (tXF q x) (mulF q (dg q a j) b) := by
            rw [show plN q - j = plN q - (j + 1) + 1 from by omega]
            show addF q (tXF q (tmTo q a b (plN q - (j + 1)))) (mulF q (dg q a (plN q - 1 - (plN q - (j + 1)))) b) = _
            rw [HXE.out, show plN q - 1 - (plN q - (j + 1)) = j from by omega]
          rw [e1]
          have hb2 := HB2.out
          have hb3 := HB3.out
          have hb4 := HB4.out
          first | exact TW.step HT.out (by (repeat' (first | (with_reducible assumption) | (with_reducible exact Below.refl _ _) | (with_reducible refine below_drewN ?_ _) | (with_reducible refine Below.drew ?_) | (with_reducible refine Below.alloc ?_ ?_ _) | (with_reducible refine Below.setCell ?_ ?_ _) | (with_reducible refine Below.trans ?_ (Below.mono (by assumption) ?_)) | (with_reducible exact Nat.le_refl _) | (with_reducible assumption) | omega | (simp; omega) | (simp; done)))) _ | exact TW.drew (TW.step HT.out (by (repeat' (first | (with_reducible assumption) | (with_reducible exact Below.refl _ _) | (with_reducible refine below_drewN ?_ _) | (with_reducible refine Below.drew ?_) | (with_reducible refine Below.alloc ?_ ?_ _) | (with_reducible refine Below.setCell ?_ ?_ _) | (with_reducible refine Below.trans ?_ (Below.mono (by assumption) ?_)) | (with_reducible exact Nat.le_refl _) | (with_reducible assumption) | omega | (simp; omega) | (simp; done)))) _)
        case measure => simp [intOf]
end Go.Proofs.YtljijnanmpajaaaGreat
