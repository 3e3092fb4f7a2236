/- laws.eqIntS, markIntS and heldIntS by contracts. -/
import Derived.Test.YthklnfanbegecacDoorD
namespace Go.Proofs.YthklnfanbegecacDoor
open Go.RowKit
theorem Row.empty {w : World} {B : Nat} {v : Value} (h : Row w B v []) : ∃ a cap, v = .slice a 0 cap := by
  rcases h.2 with ⟨hv, _⟩ | ⟨g, cap, cur, hv, _⟩
  · exact ⟨_, _, hv⟩
  · exact ⟨_, _, hv⟩
/-- The numbers k, k + 1, .. -/
def mrk (k : Int) (n : Nat) : List Int := (List.range n).map fun i : Nat => k + (i : Int)
theorem mrk_len (k : Int) (n : Nat) : (mrk k n).length = n := by simp [mrk]
theorem mrk_succ (k : Int) (n : Nat) : mrk k (n + 1) = mrk k n ++ [k + (n : Int)] := by simp [mrk, List.range_succ]
theorem mrk_get (k : Int) (n i : Nat) (h : i < n) : (mrk k n).getD i 0 = k + (i : Int) := by
  simp [mrk, List.getD, h]
theorem mark_step (k : Int) (l : List Int) (i : Nat) (h : i < l.length) : (mrk k i ++ l.drop i).set i (k + (i : Int)) = mrk k (i + 1) ++ l.drop (i + 1) := by
  rw [mrk_succ, drop_getD l i h, List.set_append, mrk_len, if_neg (Nat.lt_irrefl _), Nat.sub_self]
  simp

set_option maxHeartbeats 1000000 in
/-- laws.eqIntS of two slices that hold the same. -/
theorem eq_same (v1 v2 : Value) (l : List Int) (B1 B2 : Nat) (w : World) (h1 : Row w B1 v1 l) (h2 : Row w B2 v2 l) (hl : l.length ≤ 1048576) :
    Calls Tryd.prog 6 #[v1, v2] w fun e w' => e = .returned (.bool true) ∧ Below w.heap.size w w' := by
  by_cases hn : l.length = 0
  · obtain rfl : l = [] := List.length_eq_zero_iff.1 hn
    obtain ⟨a1, c1, rfl⟩ := h1.empty
    obtain ⟨a2, c2, rfl⟩ := h2.empty
    clear h1 h2 hn hl
    go_enter Tryd.func6, Tryd.ntmps6
    go_wp2
    (refine wp_loop_rounds 1 ?_; repeat any_goals (rw [rounds_succ]; go_wp2))
    go_wp2
    go_ret
    exact ⟨rfl, Below.refl _ _⟩
  · obtain ⟨g1, c1, rfl, _, hg1⟩ := h1.form (by omega)
    obtain ⟨g2, c2, rfl, _, hg2⟩ := h2.form (by omega)
    generalize hle : l.length = n at *
    have HLE := Lib.hid hle; clear hle
    have H1 := Lib.hid h1; clear h1
    have H2 := Lib.hid h2; clear h2
    clear hn
    go_enter Tryd.func6, Tryd.ntmps6
    go_wp2
    go_loopw [5] (fun vi wr => ∃ i : Nat, i ≤ n ∧ vi = .int .i64 i ∧ Below w.heap.size w wr) (fun vi _ => n - (intOf vi).toNat)
    case atStart => exact ⟨0, Nat.zero_le _, rfl, Below.refl _ _⟩
    case round =>
      obtain ⟨i, hi, rfl, hb⟩ := hrel
      have r1 := H1.out.below hb
      have r2 := H2.out.below hb
      have HR1 := Lib.hid r1; clear r1
      have HR2 := Lib.hid r2; clear r2
      have HB := Lib.hid hb; clear hb
      by_cases hlt : i < n
      · have e1 := Row.cell (l := l) (cap := c1) (by rw [HLE.out]; exact HR1.out) i (by rw [HLE.out]; exact hlt)
        have e2 := Row.cell (l := l) (cap := c2) (by rw [HLE.out]; exact HR2.out) i (by rw [HLE.out]; exact hlt)
        generalize l.getD i 0 = u at *
        go_wp2
        go_quiet (fail)
        go_wp2
        go_roundw
        case rel => exact ⟨i + 1, by omega, by go_num, by have hb := HB.out; (repeat' (first | (with_reducible assumption) | (with_reducible exact Below.refl _ _) | (with_reducible refine below_drewN ?_ _) | (with_reducible refine Below.drew ?_) | (with_reducible refine Below.alloc ?_ ?_ _) | (with_reducible refine Below.setCell ?_ ?_ _) | (with_reducible refine Below.trans ?_ (Below.mono (by assumption) ?_)) | (with_reducible exact Nat.le_refl _) | (with_reducible assumption) | omega | (simp; omega) | (simp; done)))⟩
        case measure => simp [intOf]; omega
      · obtain rfl : n = i := by omega
        go_wp2
        go_ret
        exact ⟨rfl, HB.out⟩

set_option maxHeartbeats 1000000 in
/-- laws.markIntS. -/
theorem mark_any (v : Value) (l : List Int) (B : Nat) (k : Int) (w : World) (h : Row w B v l) (hl : l.length ≤ 1048576) (k0 : 0 ≤ k) (k1 : k ≤ 1000) :
    Calls Tryd.prog 7 #[v, .int .i64 k] w fun e w' => e = .returned (.int .i64 (k + l.length)) ∧ Row w' B v (mrk k l.length) ∧ w.grownBy w' v.ownBlock := by
  by_cases hn : l.length = 0
  · obtain rfl : l = [] := List.length_eq_zero_iff.1 hn
    obtain ⟨a1, c1, rfl⟩ := h.empty
    have H := Lib.hid h; clear h
    clear hn hl
    go_enter Tryd.func7, Tryd.ntmps7
    go_wp2
    (refine wp_loop_rounds 1 ?_; repeat any_goals (rw [rounds_succ]; go_wp2))
    go_wp2
    go_ret
    exact ⟨ret_int (by simp), H.out, ⟨rfl, rfl, rfl, Nat.le_refl _, fun _ _ _ => rfl⟩⟩
  · obtain ⟨g1, c1, rfl, hB, hg1⟩ := h.form (by omega)
    generalize hle : l.length = n at *
    have HLE := Lib.hid hle; clear hle
    have H := Lib.hid h; clear h
    clear hn
    go_enter Tryd.func7, Tryd.ntmps7
    go_wp2
    go_loopw [1, 5] (fun vk vi wr => ∃ i : Nat, i ≤ n ∧ vi = .int .i64 i ∧ vk = .int .i64 (k + (i : Int)) ∧ Row wr B (.slice (some ⟨g1, 0, none⟩) n c1) (mrk k i ++ l.drop i) ∧ w.grownBy wr (some g1)) (fun _ vi _ => n - (intOf vi).toNat)
    case atStart => exact ⟨0, Nat.zero_le _, rfl, by simp, by simpa [mrk] using H.out, ⟨rfl, rfl, rfl, Nat.le_refl _, fun _ _ _ => rfl⟩⟩
    case round =>
      obtain ⟨i, hi, rfl, rfl, hr, hg⟩ := hrel
      have hlen : (mrk k i ++ l.drop i).length = n := by rw [List.length_append, mrk_len, List.length_drop, HLE.out]; omega
      have HLEN := Lib.hid hlen; clear hlen
      have HR := Lib.hid hr; clear hr
      have HG := Lib.hid hg; clear hg
      by_cases hlt : i < n
      · have e1 := Row.cell (l := mrk k i ++ l.drop i) (cap := c1) (by rw [HLEN.out]; exact HR.out) i (by rw [HLEN.out]; exact hlt)
        have f1 := HR.out.frozen HLEN.out.symm i
        generalize (mrk k i ++ l.drop i).getD i 0 = u at *
        go_wp2
        go_roundw
        case rel =>
          refine ⟨i + 1, by omega, by go_num, by go_num, ?_, ?_⟩
          · rw [← mark_step k l i (by rw [HLE.out]; exact hlt)]
            exact HR.out.store HLEN.out.symm i _
          · have hg := HG.out
            exact ⟨hg.os, hg.tape, hg.output, by simpa using hg.size, fun b hb hne => (Below.heap_setCell _ _ _ _ (by rintro rfl; exact hne rfl)).trans (hg.block b hb hne)⟩
        case measure => simp [intOf]; omega
      · obtain rfl : n = i := by omega
        go_wp2
        go_ret
        refine ⟨rfl, ?_, HG.out⟩
        have hr := HR.out
        rw [List.drop_of_length_le (by rw [HLE.out]; exact Nat.le_refl _), List.append_nil] at hr
        exact hr

set_option maxHeartbeats 1000000 in
/-- laws.heldIntS of a slice that was marked. -/
theorem held_any (v : Value) (n : Nat) (B : Nat) (k : Int) (w : World) (h : Row w B v (mrk k n)) (hl : n ≤ 1048576) (k0 : 0 ≤ k) (k1 : k ≤ 1000) :
    Calls Tryd.prog 8 #[v, .int .i64 k] w fun e w' => e = .returned (.int .i64 (k + n)) ∧ w = w' := by
  by_cases hn : n = 0
  · subst hn
    obtain ⟨a1, c1, rfl⟩ := Row.empty (show Row w B v [] from h)
    clear h hl
    go_enter Tryd.func8, Tryd.ntmps8
    go_wp2
    (refine wp_loop_rounds 1 ?_; repeat any_goals (rw [rounds_succ]; go_wp2))
    go_wp2
    go_ret
    exact ⟨ret_int (by simp), rfl⟩
  · obtain ⟨g1, c1, rfl, hB, hg1⟩ := h.form (by rw [mrk_len]; omega)
    rw [mrk_len] at h ⊢
    have H := Lib.hid h; clear h
    clear hn
    go_enter Tryd.func8, Tryd.ntmps8
    go_wp2
    go_loop [1, 5] (fun vk vi => ∃ i : Nat, i ≤ n ∧ vi = .int .i64 i ∧ vk = .int .i64 (k + (i : Int))) (fun _ vi => n - (intOf vi).toNat)
    case atStart => exact ⟨0, Nat.zero_le _, rfl, by simp⟩
    case round =>
      obtain ⟨i, hi, rfl, rfl⟩ := hrel
      by_cases hlt : i < n
      · have e1 := Row.cell (l := mrk k n) (cap := c1) (by rw [mrk_len]; exact H.out) i (by rw [mrk_len]; exact hlt)
        rw [mrk_get k n i hlt] at e1
        go_wp2
        go_round
        case rel => exact ⟨i + 1, by omega, by go_num, by go_num⟩
        case measure => simp [intOf]; omega
      · obtain rfl : n = i := by omega
        go_wp2
        go_ret
        exact ⟨rfl, rfl⟩
end Go.Proofs.YthklnfanbegecacDoor
