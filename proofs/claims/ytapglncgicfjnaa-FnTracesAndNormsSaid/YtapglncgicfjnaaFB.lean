/- impl.element.conjugates, impl.TraceOf and NormOf by contracts; the walks of their laws. -/
import Derived.Test.YtapglncgicfjnaaKH
import Derived.Test.YtapglncgicfjnaaFA
import Derived.Test.YtapglncgicfjnaaKG
namespace Go.Proofs.Ytapglncgicfjnaa
open Go.RowKit
/-- The memory of conjugates between two rounds. -/
structure TC (w0 wr : World) (q a : Int) (m i : Nat) : Prop where
  he : wr.heap[w0.heap.size]? = some (eblk q (fro q a i))
  hk : Blk wr (w0.heap.size + 1) m
  hl : Els wr (w0.heap.size + 1) q (fro q a) i
  bel : Below w0.heap.size w0 wr
theorem TC.step {w0 wr w5 : World} {q a : Int} {m i : Nat} (h : TC w0 wr q a m i) (hi : i < m) (hb : Below wr.heap.size (put7i wr (w0.heap.size + 1) i q (fro q a i)) w5) :
    TC w0 (put7 w5 w0.heap.size q (fro q a (i + 1))) q a m (i + 1) := by
  obtain ⟨hel, hkk⟩ := Els.step h.hk hi h.hl
  have hg := h.hk.lt
  have hgg : (put7 w5 w0.heap.size q (fro q a (i + 1))).heap[w0.heap.size + 1]? = (put7i wr (w0.heap.size + 1) i q (fro q a i)).heap[w0.heap.size + 1]? := by
    rw [put7_other _ _ _ _ _ (by omega), hb.block _ (by omega)]
  refine ⟨put7_same _ _ _ _ _ _ _ _ _ _ _ (by rw [hb.block _ (by omega), put7i_other _ _ _ _ _ _ (by omega)]; exact h.he), hkk.same hgg, hel.same hgg, ?_⟩
  exact put7_below ((put7i_below h.bel _ (by omega) _ _ _).trans (hb.mono (by omega))) _ (Nat.le_refl _) _ _

set_option maxHeartbeats 1000000 in
/-- impl.element.conjugates. -/
theorem conjugatesE (q a : Int) (w : World) (h : isSz q = true) (a0 : 0 ≤ a) (a1 : a < q) :
    Calls Try.prog 107 #[elE q a] w fun e w' => ∃ g cap, e = .returned (.slice (some ⟨g, 0, none⟩) (plN q) cap) ∧ w.heap.size ≤ g ∧ Blk w' g (plN q) ∧ Els w' g q (fro q a) (plN q) ∧ Below w.heap.size w w' := by
  obtain ⟨i0, hi, iz0, iz1, iz2⟩ := info_parts Try.infoE
  have hk := plN_bd q h
  have hp := pr_bd q h
  have hq := isSz_le q h
  have HP := Lib.hid (fun (n : Nat) w => powerE q (fro q a n) (pr q) w h (fro_bd q a h a0 a1 n).1 (fro_bd q a h a0 a1 n).2 (by omega) (by omega))
  have HS := Lib.hid (show ∀ n, pw q (fro q a n) (pr q).toNat = fro q a (n + 1) from fun _ => rfl)
  have hm : pl q = ((plN q : Nat) : Int) := rfl
  generalize hmm : plN q = m at *
  have HM := Lib.hid hm; clear hm
  have HMM := Lib.hid hmm; clear hmm
  obtain ⟨hk1, hk4⟩ := hk
  clear h
  go_enter Try.func107, Try.ntmps107
  go_wp2_with ((at_make; go_must (refine wpList_make_full _ rfl _ _ 64 rfl w.heap.size 87 i0 (.agg #[.int .i64 0, .int .i64 0, .int .i64 0, .int .i64 0, .int .i64 0, .int .i64 0, .int .i64 0]) 7 Try.underlying64 hi iz0 iz1 .i64 .i64 _ _ m rfl rfl HM.out HM.out ?c3 ?c4 ?c5 ?_)))
  case c3 => rw [iz2]; omega
  case c4 => unfold maxLen; omega
  case c5 => simp
  intro w1 hown hgrow
  have hblk : Blk w1 (w.heap.size + 1) m := by
    rcases hown.2 with ⟨hx, _⟩ | ⟨g, cap, cur, hx, _, hh, _, _, hsz, _⟩
    · simp at hx
    · simp at hx
      obtain ⟨rfl, rfl⟩ := hx
      exact ⟨cur, hh, hsz⟩
  have ht : TC w w1 q a m 0 := by
    refine ⟨?_, hblk, fun j hj => by omega, ?_⟩
    · rw [hgrow.block _ (by simp) (by simp), heap_alloc_new]
      rfl
    · exact ((Below.refl _ _).alloc (Nat.le_refl _) _).grown hgrow (by simp) (fun k hk => by cases hk)
  have HT := Lib.hid ht
  clear hown hgrow hblk ht
  go_wp2_with fail
  go_loopw [11] (fun vi wr => ∃ i : Nat, i ≤ m ∧ vi = .int .i64 i ∧ TC w wr q a m i) (fun vi _ => m - (intOf vi).toNat)
  case atStart => exact ⟨0, Nat.zero_le _, rfl, HT.out⟩
  case round =>
    obtain ⟨i, hi, rfl, ht⟩ := hrel
    have hp' := fun w => HP.out i w
    rw [HS.out i] at hp'
    have HP' := Lib.hid hp'; clear hp'
    by_cases hlt : i < m
    · obtain ⟨e0, e1, e2, e3, e4, e5, e6, ef, el⟩ := seven ht.he
      have hl := ht.hk.lt
      obtain ⟨x0, c0⟩ := ht.hk.at (i * 7) (by omega)
      obtain ⟨x1, c1⟩ := ht.hk.at (i * 7 + 1) (by omega)
      obtain ⟨x2, c2⟩ := ht.hk.at (i * 7 + 2) (by omega)
      obtain ⟨x3, c3⟩ := ht.hk.at (i * 7 + 3) (by omega)
      obtain ⟨x4, c4⟩ := ht.hk.at (i * 7 + 4) (by omega)
      obtain ⟨x5, c5⟩ := ht.hk.at (i * 7 + 5) (by omega)
      obtain ⟨x6, c6⟩ := ht.hk.at (i * 7 + 6) (by omega)
      have fr := ht.hk.free
      have HTT := Lib.hid (fun w5 hb => TC.step (w5 := w5) ht hlt hb); clear ht
      generalize fro q a (i + 1) = y at *
      generalize fro q a i = x at *
      go_wp2_with fail
      refine (HP'.out _).mono ?_
      rintro e w2 ⟨rfl, hb2⟩
      obtain ⟨hc2, hf2⟩ := bcell hb2; (try simp only [World.size_drew] at hc2 hf2); have hz2 := hb2.size; (try simp at hz2); have HB2 := Lib.hid hb2; clear hb2
      have l20 : w.heap.size < w2.heap.size := by omega
      go_wp2
      go_roundw
      case rel => exact ⟨i + 1, by omega, by go_num, HTT.out _ (by have hb2 := HB2.out; simpa using hb2)⟩
      case measure => simp [intOf]; omega
    · obtain rfl : m = i := by omega
      have HTT := Lib.hid ht; clear ht
      go_wp2
      go_ret
      exact ⟨_, _, rfl, by omega, HTT.out.hk, HTT.out.hl, HTT.out.bel⟩
end Go.Proofs.Ytapglncgicfjnaa
