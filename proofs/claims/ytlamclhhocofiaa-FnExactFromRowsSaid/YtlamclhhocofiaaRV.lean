/- impl.field.fromRows and its closure, by contracts. -/
import Derived.Test.YtlamclhhocofiaaLJ
import Derived.Test.YtlamclhhocofiaaRU
namespace Go.Proofs.Ytlamclhhocofiaa
open Go.RowKit
/-- The memory of the closure of impl.field.fromRows between two rounds. -/
structure TRW (w0 wr : World) (q x s : Int) (S : Nat) : Prop where
  hx : wr.heap[w0.heap.size]? = some (eblk q x)
  hr : wr.heap[w0.heap.size + 1]? = some zeroblk
  hs : wr.heap[S]? = some (eblk q s)
  bel : Below w0.heap.size w0 wr
  lt : w0.heap.size + 1 < S
theorem TRW.step {w0 wr w5 : World} {q x s : Int} {S : Nat} (h : TRW w0 wr q x s S) (hb : Below wr.heap.size wr w5) (s' : Int) : TRW w0 (put7 w5 S q s') q x s' S := by
  have hl := h.lt
  have hS : S < wr.heap.size := (Array.getElem?_eq_some_iff.1 h.hs).1
  refine ⟨?_, ?_, ?_, ?_, hl⟩
  · rw [put7_other _ _ _ _ _ (by omega), hb.block _ (by omega)]; exact h.hx
  · rw [put7_other _ _ _ _ _ (by omega), hb.block _ (by omega)]; exact h.hr
  · exact put7_same _ _ _ _ _ _ _ _ _ _ _ (by rw [hb.block _ hS]; exact h.hs)
  · exact put7_below (h.bel.trans (hb.mono (by omega))) _ (by omega) _ _
theorem TRW.drew {w0 wr : World} {q x s : Int} {S : Nat} (h : TRW w0 wr q x s S) : TRW w0 wr.drew q x s S := ⟨h.1, h.2, h.3, h.4.drew, h.5⟩
set_option maxRecDepth 100000 in
set_option maxHeartbeats 8000000 in
/-- The closure of impl.field.fromRows. -/
theorem fromRowsClo (q x : Int) (V : Nat → Int) (k Fb Vb gv cap : Nat) (w : World) (h : isSz q = true) (hkk : k = plN q) (hV : ∀ i, i < k → El q (V i)) (hF : w.heap[Fb]? = some (ffblk q)) (hB : w.cell? ⟨Vb, 0, none⟩ = some (.slice (some ⟨gv, 0, none⟩) k cap)) (hg : gv < w.heap.size) (he : Els w gv q V k) :
    Calls Try.prog 110 #[elE q x, .pointer (some ⟨Fb, 0, none⟩), .pointer (some ⟨Vb, 0, none⟩)] w fun e w' => e = .returned (elE q (lsum q (fun i => mulF q (dg q x i) (V i)) k)) ∧ Below w.heap.size w w' := by
  have hkb := plN_bd q h
  rw [← hkk] at hkb
  have HZ := Lib.hid (fun w => zeroE q w h)
  have HSE : Hid (∀ i, i ≤ k → El q (lsum q (fun i => mulF q (dg q x i) (V i)) i)) := Lib.hid fun i hi => lsum_el h fun j hj => (dg_els h j).mul h (hV j (by omega))
  have HS := Lib.hid (fun i (hi : i < k) w => scaledE q (V i) (dg q x i) w h (hV i hi).1 (hV i hi).2 (dg_lt h i).1 (dg_lt h i).2)
  have HP := Lib.hid (fun i (hi : i < k) w => plusE q (lsum q (fun i => mulF q (dg q x i) (V i)) i) (mulF q (dg q x i) (V i)) w h (HSE.out i (by omega)).1 (HSE.out i (by omega)).2 ((dg_els h i).mul h (hV i hi)).1 ((dg_els h i).mul h (hV i hi)).2)
  have HSN : Hid (∀ i, addF q (lsum q (fun i => mulF q (dg q x i) (V i)) i) (mulF q (dg q x i) (V i)) = lsum q (fun i => mulF q (dg q x i) (V i)) (i + 1)) := Lib.hid fun _ => rfl
  have HS0 : Hid (lsum q (fun i => mulF q (dg q x i) (V i)) 0 = 0) := Lib.hid rfl
  obtain ⟨f0, f1, f2, ff⟩ := cells3' hF
  have lF : Fb < w.heap.size := (Array.getElem?_eq_some_iff.1 hF).1
  have lV := World.block_lt_of_cell? w _ hB
  simp only at lV
  have HEL := Lib.hid (fun wr (hb : Below w.heap.size w wr) => he.below hb hg)
  have HBV := Lib.hid (fun wr (hb : Below w.heap.size w wr) => (hb.cell (p := ⟨Vb, 0, none⟩) lV).trans hB)
  clear h hkk hV hF he hB ff HSE
  generalize hL : lsum q (fun i => mulF q (dg q x i) (V i)) = L at *
  clear hL
  go_enter Try.func110, Try.ntmps110
  go_wp2_with fail
  refine (HZ.out _).mono ?_
  rintro e w1 ⟨rfl, hb1⟩
  have hz1 := hb1.size
  simp at hz1
  have hta : TRW w (w1.alloc (eblk q 0)) q x (L 0) w1.heap.size := by
    have hb' : Below (w.heap.size + 2) ((w.alloc (eblk q x)).alloc zeroblk) w1 := hb1.mono (by simp)
    obtain ⟨t0, t1⟩ := two w (eblk q x) zeroblk
    refine ⟨?_, ?_, ?_, ?_, by omega⟩
    · rw [Below.heap_alloc _ _ _ (by omega), hb'.block _ (by omega)]; exact t0
    · rw [Below.heap_alloc _ _ _ (by omega), hb'.block _ (by omega)]; exact t1
    · rw [HS0.out]; exact heap_alloc_new _ _
    · (repeat' (first | (with_reducible assumption) | (with_reducible exact Below.refl _ _) | (with_reducible refine below_drewN ?_ _) | (with_reducible refine Below.drew ?_) | (with_reducible refine Below.alloc ?_ ?_ _) | (with_reducible refine Below.setCell ?_ ?_ _) | (with_reducible refine Below.trans ?_ (Below.mono (by assumption) ?_)) | (with_reducible exact Nat.le_refl _) | (with_reducible assumption) | omega | (simp; omega) | (simp; done)))
  have HTA := Lib.hid hta
  have hbv := HBV.out _ hta.bel
  clear hta hb1
  have l0 : w.heap.size < w1.heap.size := by omega
  have lV1 : Vb < w1.heap.size := by omega
  go_wp2_with fail
  go_loopw [12] (fun vi wr => ∃ i : Nat, i ≤ k ∧ vi = .int .i64 i ∧ TRW w wr q x (L i) w1.heap.size) (fun vi _ => k - (intOf vi).toNat)
  case atStart => exact ⟨0, Nat.zero_le _, rfl, HTA.out⟩
  case round =>
    obtain ⟨i, hi, rfl, ht⟩ := hrel
    obtain ⟨x0, x1, x2, x3, x4, x5, x6, xf, xl⟩ := seven ht.hx
    obtain ⟨s0, s1, s2, s3, s4, s5, s6, sf, sl⟩ := seven ht.hs
    obtain ⟨r0, r1, r2, r3, r4, r5, r6, rf, rl⟩ := seven ht.hr
    have hlt0 := ht.lt
    by_cases hlt : i < k
    · clear r0 r1 r2 r3 r4 r5 r6 rf
      have hci : wr.cell? ⟨w.heap.size, 3 + i, none⟩ = some (.int .i64 (dg q x i)) := by
        have : i = 0 ∨ i = 1 ∨ i = 2 ∨ i = 3 := by omega
        rcases this with rfl | rfl | rfl | rfl
        · exact x3
        · exact x4
        · exact x5
        · exact x6
      clear x0 x1 x2 x3 x4 x5 x6 xf
      obtain ⟨c0, c1, c2, c3, c4, c5, c6⟩ := (HEL.out _ ht.bel) i hlt
      have hgl : gv < wr.heap.size := by have := ht.bel.size; omega
      have HS' := Lib.hid (HS.out i hlt)
      have HP' := Lib.hid (HP.out i hlt)
      rw [HSN.out] at HP'
      have HT := Lib.hid ht; clear ht
      have hi4 : i < 4 := by omega
      have hii0 : (0 : Int) ≤ (i : Int) := by omega
      have hii4 : (i : Int) < 4 := by omega
      obtain ⟨L2, hL2⟩ : ∃ y, L (i + 1) = y := ⟨_, rfl⟩
      rw [hL2] at HP'
      have HL2 := Lib.hid hL2; clear hL2
      generalize mulF q (dg q x i) (V i) = z at *
      generalize L i = s at *
      generalize dg q x i = d at *
      generalize V i = u at *
      go_wp2_with fail
      go_region_with (first | (go_at_call 112; refine (HS'.out _).mono ?_; rintro e w3 ⟨rfl, hb3⟩; obtain ⟨hc3, hf3⟩ := bcell hb3; (try simp only [World.size_drew] at hc3 hf3); have hz3 := hb3.size; (try simp at hz3); have HB3 := Lib.hid hb3; clear hb3; have l3 : w1.heap.size < w3.heap.size := (by omega)) | (go_at_call 111; refine (HP'.out _).mono ?_; rintro e w4 ⟨rfl, hb4⟩; obtain ⟨hc4, hf4⟩ := bcell hb4; (try simp only [World.size_drew] at hc4 hf4); have hz4 := hb4.size; (try simp at hz4); have HB4 := Lib.hid hb4; clear hb4; have l4 : w1.heap.size < w4.heap.size := (by omega)))
      all_goals
        go_wp2
        go_roundw
        case rel =>
          have hb3 := HB3.out
          have hb4 := HB4.out
          refine ⟨i + 1, by omega, by go_num, ?_⟩
          rw [HL2.out]
          first | exact TRW.step HT.out (by (repeat' (first | (with_reducible assumption) | (with_reducible exact Below.refl _ _) | (with_reducible refine below_drewN ?_ _) | (with_reducible refine Below.drew ?_) | (with_reducible refine Below.alloc ?_ ?_ _) | (with_reducible refine Below.setCell ?_ ?_ _) | (with_reducible refine Below.trans ?_ (Below.mono (by assumption) ?_)) | (with_reducible exact Nat.le_refl _) | (with_reducible assumption) | omega | (simp; omega) | (simp; done)))) _ | exact TRW.drew (TRW.step HT.out (by (repeat' (first | (with_reducible assumption) | (with_reducible exact Below.refl _ _) | (with_reducible refine below_drewN ?_ _) | (with_reducible refine Below.drew ?_) | (with_reducible refine Below.alloc ?_ ?_ _) | (with_reducible refine Below.setCell ?_ ?_ _) | (with_reducible refine Below.trans ?_ (Below.mono (by assumption) ?_)) | (with_reducible exact Nat.le_refl _) | (with_reducible assumption) | omega | (simp; omega) | (simp; done)))) _)
        case measure => (simp [intOf]; try omega)
    · obtain rfl : k = i := by omega
      have hb := ht.bel
      clear ht x0 x1 x2 x3 x4 x5 x6 xf
      go_wp2_with fail
      refine bodyPost_ret (v := elE q (L k)) (by simp [results, Try.results110, go_sem, r0, r1, r2, r3, r4, r5, r6]) rfl ⟨rfl, ?_⟩
      (repeat' (first | (with_reducible assumption) | (with_reducible exact Below.refl _ _) | (with_reducible refine below_drewN ?_ _) | (with_reducible refine Below.drew ?_) | (with_reducible refine Below.alloc ?_ ?_ _) | (with_reducible refine Below.setCell ?_ ?_ _) | (with_reducible refine Below.trans ?_ (Below.mono (by assumption) ?_)) | (with_reducible exact Nat.le_refl _) | (with_reducible assumption) | omega | (simp; omega) | (simp; done)))
end Go.Proofs.Ytlamclhhocofiaa
