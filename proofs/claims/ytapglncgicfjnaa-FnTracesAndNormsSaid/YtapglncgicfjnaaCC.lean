/- The walk of the law of logs. -/
import Derived.Test.YtapglncgicfjnaaCB
namespace Go.Proofs.Ytapglncgicfjnaa
open Go.RowKit
/-- The log of an element other than 0. -/
def logN (q a : Int) : Nat := (List.range 16).findIdx fun k => pw q (firstP q) k == a
set_option maxRecDepth 100000 in
theorem logN_spec (q a : Int) (h : isSz q = true) (a0 : 0 < a) (a1 : a < q) : pw q (firstP q) (logN q a) = a ∧ logN q a ≤ 16 := by
  have hc := of_chk1 (f := fun q a => a == 0 || decide (pw q (firstP q) (logN q a) = a ∧ logN q a ≤ 16)) (by decide +kernel) q a h (by omega) a1
  simp only [Bool.or_eq_true, beq_iff_eq, decide_eq_true_eq] at hc
  rcases hc with hc | hc
  · omega
  · exact hc
set_option maxRecDepth 100000 in
theorem logN_least (q a : Int) (h : isSz q = true) (a0 : 0 < a) (a1 : a < q) (n : Nat) (hn : n < logN q a) : pw q (firstP q) n ≠ a := by
  have hc := of_chk1 (f := fun q a => a == 0 || ((List.range (logN q a)).all fun n => pw q (firstP q) n != a)) (by decide +kernel) q a h (by omega) a1
  simp only [Bool.or_eq_true, beq_iff_eq, List.all_eq_true, List.mem_range, bne_iff_ne] at hc
  rcases hc with hc | hc
  · omega
  · exact hc n hn

set_option maxHeartbeats 1000000 in
/-- spec.fdLog. -/
theorem fdLog_any (q a : Int) (w : World) (h : isSz q = true) (a0 : 0 < a) (a1 : a < q) :
    Calls Try.prog 89 #[.int .i64 q, .int .i64 a] w fun e w' => e = .returned (.int .i64 (logN q a)) ∧ Below w.heap.size w w' := by
  obtain ⟨hg, g0, g1, hl, _⟩ := firstP_spec q h
  have HC := Lib.hid (fun w => fdPrimitive_any q w h)
  have HT := Lib.hid (fun n w => fdTimes_any q (pw q (firstP q) n) (firstP q) w h (pw_bd q _ h (by omega) g1 n).1 (pw_bd q _ h (by omega) g1 n).2 (by omega) g1)
  have HS := Lib.hid (logN_spec q a h a0 a1)
  have HL := Lib.hid (logN_least q a h a0 a1)
  have hn := HS.out.2
  generalize primTo q q.toNat = l at *
  have HG := Lib.hid hg; clear hg
  generalize firstP q = g at *
  generalize hne : logN q a = n at *
  have HNE := Lib.hid hne; clear hne
  clear h
  go_enter Try.func89, Try.ntmps89
  go_wp2_with fail
  refine (HC.out _).mono ?_
  rintro e w2 ⟨v, rfl, hr, hb2⟩
  have hz_hb2 := hb2.size; (try simp at hz_hb2)
  obtain ⟨gb, c, rfl, _, _⟩ := hr.form hl
  have hc := Row.cell hr 0 hl
  rw [HG.out] at hc
  have hpos : (0 : Int) < (l.length : Int) := by omega
  clear hr
  have HB2 := Lib.hid hb2; clear hb2
  go_wp2_with fail
  clear hc
  go_loopw [6, 7] (fun vk vx wr => ∃ r : Nat, r ≤ n ∧ vk = .int .i64 r ∧ vx = .int .i64 (pw q g r) ∧ Below w.heap.size w wr) (fun vk _ _ => n - (intOf vk).toNat)
  case atStart => exact ⟨0, Nat.zero_le _, rfl, rfl, HB2.out⟩
  case round =>
    obtain ⟨r, hr, rfl, rfl, hb⟩ := hrel
    have hz := hb.size
    have HB := Lib.hid hb; clear hb
    by_cases h0 : r < n
    · have t : (pw q g r != a) = true := by simpa using HL.out r h0
      go_wp2_with fail
      refine (HT.out _ _).mono ?_
      rintro e w3 ⟨rfl, hb3⟩
      have hz_hb3 := hb3.size; (try simp at hz_hb3)
      have HB3 := Lib.hid hb3; clear hb3
      go_wp2
      go_roundw
      case rel => exact ⟨r + 1, by omega, by go_num, rfl, HB.out.trans (HB3.out.mono hz)⟩
      case measure => simp [intOf]; omega
    · obtain rfl : n = r := by omega
      have t : (pw q g n != a) = false := by simpa using HS.out.1
      go_wp2
      go_ret
      exact ⟨rfl, HB.out⟩

/-- The memory of LogOf between two rounds. -/
structure TL (w0 wr : World) (q a g x : Int) (E G Q : Nat) : Prop where
  he : wr.heap[E]? = some (eblk q a)
  hg : wr.heap[G]? = some (eblk q g)
  hq : wr.heap[Q]? = some (eblk q x)
  bel : Below w0.heap.size w0 wr
  l0 : w0.heap.size ≤ E
  l1 : E < G
  l2 : G < Q
theorem TL.step {w0 wr w2 : World} {q a g x : Int} {E G Q : Nat} (h : TL w0 wr q a g x E G Q) (hb : Below (wr.alloc (eblk q x)).heap.size (wr.alloc (eblk q x)) w2) (x' : Int) : TL w0 (put7 w2 wr.heap.size q x') q a g x' E G wr.heap.size := by
  have hQ : Q < wr.heap.size := (Array.getElem?_eq_some_iff.1 h.hq).1
  have h0 := h.l0
  have h1 := h.l1
  have h2 := h.l2
  have hs : (wr.alloc (eblk q x)).heap.size = wr.heap.size + 1 := by simp
  rw [hs] at hb
  refine ⟨?_, ?_, ?_, ?_, h0, h1, by omega⟩
  · rw [put7_other _ _ _ _ _ (by omega), hb.block _ (by omega), Below.heap_alloc _ _ _ (by omega)]; exact h.he
  · rw [put7_other _ _ _ _ _ (by omega), hb.block _ (by omega), Below.heap_alloc _ _ _ (by omega)]; exact h.hg
  · exact put7_same _ _ _ _ _ _ _ _ _ _ _ (by rw [hb.block _ (by omega)]; exact heap_alloc_new wr _)
  · exact put7_below ((h.bel.alloc (by omega) _).trans (hb.mono (by omega))) _ (by omega) _ _

set_option maxHeartbeats 2000000 in
/-- impl.LogOf. -/
theorem impl_LogOf_yes (q a : Int) (w : World) (hn : inN q a = true) :
    Calls Try.prog 30 #[.int .i64 q, .int .i64 a] w fun e w' => e = .returned (.tuple #[.int .i64 (logN q a), .bool true]) ∧ Below w.heap.size w w' := by
  obtain ⟨hi, h, a0, a1⟩ := inN_yes hn
  obtain ⟨_, g0, g1, _, _⟩ := firstP_spec q h
  have hq := isSz_le q h
  have HP := Lib.hid (fun w => nonzeroOf_yes q a w hn)
  have HF := Lib.hid (fun w => firstPrimitiveE q w h)
  have HOn := Lib.hid (fun w => oneE q w h)
  have HT := Lib.hid (fun n w => timesE q (pw q (firstP q) n) (firstP q) w h (pw_bd q _ h (by omega) g1 n).1 (pw_bd q _ h (by omega) g1 n).2 (by omega) g1)
  have HS := Lib.hid (logN_spec q a h a0 a1)
  have HL := Lib.hid (logN_least q a h a0 a1)
  have heq : ∀ n w, (Op.equalIn 9999 85 (.agg #[.int .i64 (dg q (pw q (firstP q) n) 0), .int .i64 (dg q (pw q (firstP q) n) 1), .int .i64 (dg q (pw q (firstP q) n) 2), .int .i64 (dg q (pw q (firstP q) n) 3)]) (.agg #[.int .i64 (dg q a 0), .int .i64 (dg q a 1), .int .i64 (dg q a 2), .int .i64 (dg q a 3)])).run Try.prog w = .ok (decide (pw q (firstP q) n = a)) w := fun n w => by
    have hb := pw_bd q (firstP q) h (by omega) g1 n
    rw [← dg_inj q (pw q (firstP q) n) a h hb.1 hb.2 (by omega) a1]
    exact eq_arr 85 Try.underlying85 _ _ _ _ _ _ _ _ 9997 w
  have HEQ := Lib.hid heq; clear heq
  have hn16 := HS.out.2
  generalize firstP q = g at *
  generalize hne : logN q a = n at *
  have HNE := Lib.hid hne; clear hne
  clear h hn hi a0
  go_enter Try.func30, Try.ntmps30
  go_wp2_with fail
  refine (HP.out _).mono ?_
  rintro e w1 ⟨rfl, hb1⟩
  have hz1 := hb1.size
  have HB1 := Lib.hid hb1; clear hb1
  go_wp2_with fail
  refine (HF.out _).mono ?_
  rintro e w2 ⟨rfl, hb2⟩
  obtain ⟨hc2, hf2⟩ := bcell hb2; (try simp only [World.size_drew] at hc2 hf2); have hz2 := hb2.size; (try simp at hz2); have HB2 := Lib.hid hb2; clear hb2
  have l2 : w1.heap.size < w2.heap.size := by omega
  go_wp2_with fail
  refine (HOn.out _).mono ?_
  rintro e w3 ⟨rfl, hb3⟩
  obtain ⟨hc3, hf3⟩ := bcell hb3; (try simp only [World.size_drew] at hc3 hf3); have hz3 := hb3.size; (try simp at hz3); have HB3 := Lib.hid hb3; clear hb3
  have l3 : w1.heap.size < w3.heap.size := by omega
  have l32 : w2.heap.size < w3.heap.size := by omega
  have htl : TL w (w3.alloc (eblk q 1)) q a g (pw q g 0) w1.heap.size w2.heap.size w3.heap.size := by
    have hb1 := HB1.out
    have hb2 := HB2.out
    have hb3 := HB3.out
    refine ⟨?_, ?_, heap_alloc_new w3 _, ?_, hz1, l2, l32⟩
    · rw [Below.heap_alloc _ _ _ l3, hb3.block _ (by simp; omega), Below.heap_alloc _ _ _ l2, hb2.block _ (by simp), heap_alloc_new]
    · rw [Below.heap_alloc _ _ _ l32, hb3.block _ (by simp), heap_alloc_new]
    · (repeat' (first | (with_reducible assumption) | (with_reducible exact Below.refl _ _) | (with_reducible refine below_drewN ?_ _) | (with_reducible refine Below.drew ?_) | (with_reducible refine Below.alloc ?_ ?_ _) | (with_reducible refine Below.setCell ?_ ?_ _) | (with_reducible refine Below.trans ?_ (Below.mono (by assumption) ?_)) | (with_reducible exact Nat.le_refl _) | (with_reducible assumption) | omega | (simp; omega) | (simp; done)))
  have HTL := Lib.hid htl; clear htl
  go_wp2_with fail
  go_loopw [9, 10] (fun vk vp wr => ∃ (r Q : Nat), r ≤ n ∧ vk = .int .i64 r ∧ vp = .pointer (some ⟨Q, 0, none⟩) ∧ TL w wr q a g (pw q g r) w1.heap.size w2.heap.size Q) (fun vk _ _ => n - (intOf vk).toNat)
  case atStart => exact ⟨0, w3.heap.size, Nat.zero_le _, rfl, rfl, HTL.out⟩
  case round =>
    obtain ⟨r, Q, hr, rfl, rfl, ht⟩ := hrel
    clear hc2 hf2 hc3 hf3
    have HEr := Lib.hid (HEQ.out r)
    have HTr := Lib.hid (HT.out r)
    have HSr : Hid (pw q g (r + 1) = mulF q (pw q g r) g) := Lib.hid rfl
    have HLr := Lib.hid (HL.out r)
    have hlq := ht.l2
    obtain ⟨e0, e1, e2, e3, e4, e5, e6, ef, el⟩ := seven ht.he
    obtain ⟨o0, o1, o2, o3, o4, o5, o6, of', ol⟩ := seven ht.hg
    obtain ⟨p0, p1, p2, p3, p4, p5, p6, pf, pl'⟩ := seven ht.hq
    have HTT := Lib.hid ht; clear ht
    by_cases h0 : r < n
    · have t : decide (pw q g r = a) = false := by simpa using HLr.out h0
      generalize pw q g r = x at *
      go_wp2_with (simp only [HEr.out, Result.andThen_ok])
      refine (HTr.out _).mono ?_
      rintro e w4 ⟨rfl, hb4⟩
      have HST := Lib.hid (HTT.out.step hb4 (mulF q x g))
      obtain ⟨hc4, hf4⟩ := bcell hb4; (try simp only [World.size_drew] at hc4 hf4); have hz4 := hb4.size; (try simp at hz4); have HB4 := Lib.hid hb4; clear hb4
      have l4 : wr.heap.size < w4.heap.size := by omega
      go_wp2
      go_roundw
      case rel => exact ⟨r + 1, wr.heap.size, by omega, by go_num, rfl, by rw [HSr.out]; exact HST.out⟩
      case measure => simp [intOf]; omega
    · obtain rfl : n = r := by omega
      have t : pw q g n = a := HS.out.1
      rw [t] at p3 p4 p5 p6 HEr
      go_wp2_with (simp only [HEr.out, Result.andThen_ok])
      go_ret2
      exact ⟨rfl, HTT.out.bel⟩
end Go.Proofs.Ytapglncgicfjnaa
