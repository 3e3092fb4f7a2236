/- laws.markIntS from a number that need not be small. -/
import Derived.Test.YthklnfanbegecacR
namespace Go.Proofs.Ythklnfanbegecac
open Go.RowKit
set_option maxHeartbeats 1000000 in
/-- laws.markIntS. -/
theorem mark_big (v : Value) (l : List Int) (B : Nat) (k : Int) (w : World) (h : Row w B v l) (hl : l.length ≤ 1048576) (k0 : 0 ≤ k) (k1 : k ≤ 10000000) :
    Calls Try.prog 10 #[v, .int .i64 k] w fun e w' => e = .returned (.int .i64 (k + l.length)) ∧ Row w' B v (mrk k l.length) ∧ w.grownBy w' v.ownBlock := by
  by_cases hn : l.length = 0
  · obtain rfl : l = [] := List.length_eq_zero_iff.1 hn
    obtain ⟨a1, c1, rfl⟩ := h.empty
    have H := Lib.hid h; clear h
    clear hn hl
    go_enter Try.func10, Try.ntmps10
    go_wp2
    (refine wp_loop_rounds 1 ?_; repeat any_goals (rw [rounds_succ]; go_wp2))
    go_wp2
    go_ret
    exact ⟨ret_int (by simp), H.out, ⟨rfl, rfl, rfl, Nat.le_refl _, fun _ _ _ => rfl⟩⟩
  · obtain ⟨g1, c1, rfl, hB, hg1⟩ := h.form (by omega)
    generalize hle : l.length = n at *
    have HLE := Lib.hid hle; clear hle
    have H := Lib.hid h; clear h
    clear hn
    go_enter Try.func10, Try.ntmps10
    go_wp2
    go_loopw [1, 5] (fun vk vi wr => ∃ i : Nat, i ≤ n ∧ vi = .int .i64 i ∧ vk = .int .i64 (k + (i : Int)) ∧ Row wr B (.slice (some ⟨g1, 0, none⟩) n c1) (mrk k i ++ l.drop i) ∧ w.grownBy wr (some g1)) (fun _ vi _ => n - (intOf vi).toNat)
    case atStart => exact ⟨0, Nat.zero_le _, rfl, by simp, by simpa [mrk] using H.out, ⟨rfl, rfl, rfl, Nat.le_refl _, fun _ _ _ => rfl⟩⟩
    case round =>
      obtain ⟨i, hi, rfl, rfl, hr, hg⟩ := hrel
      have hlen : (mrk k i ++ l.drop i).length = n := by rw [List.length_append, mrk_len, List.length_drop, HLE.out]; omega
      have HLEN := Lib.hid hlen; clear hlen
      have HR := Lib.hid hr; clear hr
      have HG := Lib.hid hg; clear hg
      by_cases hlt : i < n
      · have e1 := Row.cell (l := mrk k i ++ l.drop i) (cap := c1) (by rw [HLEN.out]; exact HR.out) i (by rw [HLEN.out]; exact hlt)
        have f1 := HR.out.frozen HLEN.out.symm i
        generalize (mrk k i ++ l.drop i).getD i 0 = u at *
        go_wp2
        go_roundw
        case rel =>
          refine ⟨i + 1, by omega, by go_num, by go_num, ?_, ?_⟩
          · rw [← mark_step k l i (by rw [HLE.out]; exact hlt)]
            exact HR.out.store HLEN.out.symm i _
          · have hg := HG.out
            exact ⟨hg.os, hg.tape, hg.output, by simpa using hg.size, fun b hb hne => (Below.heap_setCell _ _ _ _ (by rintro rfl; exact hne rfl)).trans (hg.block b hb hne)⟩
        case measure => simp [intOf]; omega
      · obtain rfl : n = i := by omega
        go_wp2
        go_ret
        refine ⟨rfl, ?_, HG.out⟩
        have hr := HR.out
        rw [List.drop_of_length_le (by rw [HLE.out]; exact Nat.le_refl _), List.append_nil] at hr
        exact hr

end Go.Proofs.Ythklnfanbegecac
