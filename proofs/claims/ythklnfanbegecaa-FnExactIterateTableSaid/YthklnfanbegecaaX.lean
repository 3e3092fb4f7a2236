/- impl.element.order by a contract; the walks of the laws of inverses and orders. -/
import Derived.Test.YthklnfanbegecaaW
import Derived.Test.YthklnfanbegecaaS
namespace Go.Proofs.Ythklnfanbegecaa
open Go.RowKit
/-- The memory of order between two rounds. -/
structure TO (w0 wr : World) (q a x : Int) (O Q : Nat) : Prop where
  he : wr.heap[w0.heap.size]? = some (eblk q a)
  ho : wr.heap[O]? = some (eblk q 1)
  hq : wr.heap[Q]? = some (eblk q x)
  bel : Below w0.heap.size w0 wr
  lt : w0.heap.size < O
  lq : O < Q
theorem TO.step {w0 wr w2 : World} {q a x : Int} {O Q : Nat} (h : TO w0 wr q a x O Q) (hb : Below (wr.alloc (eblk q x)).heap.size (wr.alloc (eblk q x)) w2) (x' : Int) : TO w0 (put7 w2 wr.heap.size q x') q a x' O wr.heap.size := by
  have hQ : Q < wr.heap.size := (Array.getElem?_eq_some_iff.1 h.hq).1
  have hl := h.lt
  have hlq := h.lq
  have hs : (wr.alloc (eblk q x)).heap.size = wr.heap.size + 1 := by simp
  rw [hs] at hb
  refine ⟨?_, ?_, ?_, ?_, hl, by omega⟩
  · rw [put7_other _ _ _ _ _ (by omega), hb.block _ (by omega), Below.heap_alloc _ _ _ (by omega)]; exact h.he
  · rw [put7_other _ _ _ _ _ (by omega), hb.block _ (by omega), Below.heap_alloc _ _ _ (by omega)]; exact h.ho
  · exact put7_same _ _ _ _ _ _ _ _ _ _ _ (by rw [hb.block _ (by omega)]; exact heap_alloc_new wr _)
  · exact put7_below ((h.bel.alloc (by omega) _).trans (hb.mono (by omega))) _ (by omega) _ _

set_option maxHeartbeats 2000000 in
/-- impl.element.order. -/
theorem orderE (q a : Int) (w : World) (h : isSz q = true) (a0 : 0 < a) (a1 : a < q) :
    Calls Try.prog 71 #[elE q a] w fun e w' => e = .returned (.int .i64 (ordN q a)) ∧ Below w.heap.size w w' := by
  have hq := isSz_le q h
  have HOn := Lib.hid (fun w => oneE q w h)
  have HT := Lib.hid (fun n w => timesE q (pw q a n) a w h (pw_bd q a h (by omega) a1 n).1 (pw_bd q a h (by omega) a1 n).2 (by omega) a1)
  have HO := Lib.hid (ordN_spec q a h a0 a1)
  have HL := Lib.hid (ordN_least q a h a0 a1)
  have H1 := Lib.hid (mulF_one q a h (by omega) a1)
  have heq : ∀ n w, (Op.equalIn 9999 47 (.agg #[.int .i64 (dg q (pw q a n) 0), .int .i64 (dg q (pw q a n) 1), .int .i64 (dg q (pw q a n) 2), .int .i64 (dg q (pw q a n) 3)]) (.agg #[.int .i64 (dg q 1 0), .int .i64 (dg q 1 1), .int .i64 (dg q 1 2), .int .i64 (dg q 1 3)])).run Try.prog w = .ok (decide (pw q a n = 1)) w := fun n w => by
    have hb := pw_bd q a h (by omega) a1 n
    rw [← dg_inj q (pw q a n) 1 h hb.1 hb.2 (by decide) (by omega)]
    exact eq_arr 47 Try.underlying47 _ _ _ _ _ _ _ _ 9997 w
  have HEQ := Lib.hid heq; clear heq
  clear h a0
  have hn : ordN q a ≤ 16 := by have := HO.out.2.2; omega
  generalize hne : ordN q a = n at *
  have HNE := Lib.hid hne; clear hne
  go_enter Try.func71, Try.ntmps71
  go_wp2_with fail
  refine (HOn.out _).mono ?_
  rintro e w1 ⟨rfl, hb1⟩
  have hz1 := hb1.size
  simp at hz1
  have hto : TO w ((w1.alloc (eblk q 1)).alloc (eblk q a)) q a (pw q a 1) w1.heap.size (w1.heap.size + 1) := by
    refine ⟨?_, ?_, ?_, ?_, by omega, by omega⟩
    · rw [Below.heap_alloc _ _ _ (by simp; omega), Below.heap_alloc _ _ _ (by omega), hb1.block _ (by simp), heap_alloc_new]
    · rw [Below.heap_alloc _ _ _ (by simp), heap_alloc_new]
    · rw [show w1.heap.size + 1 = (w1.alloc (eblk q 1)).heap.size from by simp, heap_alloc_new, show pw q a 1 = a from H1.out.1]
    · (repeat' (first | (with_reducible assumption) | (with_reducible exact Below.refl _ _) | (with_reducible refine below_drewN ?_ _) | (with_reducible refine Below.drew ?_) | (with_reducible refine Below.alloc ?_ ?_ _) | (with_reducible refine Below.setCell ?_ ?_ _) | (with_reducible refine Below.trans ?_ (Below.mono (by assumption) ?_)) | (with_reducible exact Nat.le_refl _) | (with_reducible assumption) | omega | (simp; omega) | (simp; done)))
  obtain ⟨hc1, hf1⟩ := bcell hb1
  clear hb1
  have HTO := Lib.hid hto; clear hto
  have hl0 : w.heap.size < w1.heap.size := by omega
  go_wp2_with fail
  go_loopw [4, 5] (fun vk vp wr => ∃ (r Q : Nat), 1 ≤ r ∧ r ≤ n ∧ vk = .int .i64 r ∧ vp = .pointer (some ⟨Q, 0, none⟩) ∧ TO w wr q a (pw q a r) w1.heap.size Q) (fun vk _ _ => n - (intOf vk).toNat)
  case atStart => exact ⟨1, w1.heap.size + 1, Nat.le_refl _, HO.out.2.1, rfl, rfl, HTO.out⟩
  case round =>
    obtain ⟨r, Q, hr1, hr, rfl, rfl, ht⟩ := hrel
    clear hc1 hf1
    have HEr := Lib.hid (HEQ.out r)
    have HTr := Lib.hid (HT.out r)
    have HS : Hid (pw q a (r + 1) = mulF q (pw q a r) a) := Lib.hid rfl
    have HLr := Lib.hid (HL.out r hr1)
    have hlq := ht.lq
    obtain ⟨e0, e1, e2, e3, e4, e5, e6, ef, el⟩ := seven ht.he
    obtain ⟨o0, o1, o2, o3, o4, o5, o6, of', ol⟩ := seven ht.ho
    obtain ⟨p0, p1, p2, p3, p4, p5, p6, pf, pl'⟩ := seven ht.hq
    have HTT := Lib.hid ht; clear ht
    by_cases h0 : r < n
    · have t : decide (pw q a r = 1) = false := by simpa using HLr.out h0
      generalize pw q a r = x at *
      go_wp2_with (simp only [HEr.out, Result.andThen_ok])
      refine (HTr.out _).mono ?_
      rintro e w2 ⟨rfl, hb2⟩
      have HST := Lib.hid (HTT.out.step hb2 (mulF q x a))
      obtain ⟨hc2, hf2⟩ := bcell hb2; (try simp only [World.size_drew] at hc2 hf2); have hz2 := hb2.size; (try simp at hz2); have HB2 := Lib.hid hb2; clear hb2
      have l2 : wr.heap.size < w2.heap.size := by omega
      go_wp2
      go_roundw
      case rel => exact ⟨r + 1, wr.heap.size, by omega, by omega, by go_num, rfl, by rw [HS.out]; exact HST.out⟩
      case measure => simp [intOf]; omega
    · obtain rfl : n = r := by omega
      have t : pw q a n = 1 := HO.out.1
      rw [t] at p3 p4 p5 p6 HEr
      go_wp2_with (simp only [HEr.out, Result.andThen_ok])
      go_ret
      exact ⟨rfl, HTT.out.bel⟩
end Go.Proofs.Ythklnfanbegecaa
