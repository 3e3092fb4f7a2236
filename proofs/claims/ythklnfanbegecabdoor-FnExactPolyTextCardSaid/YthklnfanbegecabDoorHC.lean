/- laws.toIntS by a contract. -/
import Derived.Test.YthklnfanbegecabDoorHB
import Derived.Test.YthklnfanbegecabDoorF
namespace Go.Proofs.YthklnfanbegecabDoor
open Go.RowKit
/-- The first i entries of f, zeros behind. -/
def part0 (f : Nat → Int) (i : Nat) : Nat → Int := fun j => if j < i then f j else 0
theorem part0_step (f : Nat → Int) (i : Nat) : upd (part0 f i) i (f i) = part0 f (i + 1) := by
  funext j
  unfold upd part0
  by_cases e : j = i
  · subst e; simp
  · rw [if_neg e]
    by_cases h : j < i
    · rw [if_pos h, if_pos (by omega)]
    · rw [if_neg h, if_neg (by omega)]
theorem part0_all (f : Nat → Int) (n : Nat) : fl (part0 f n) n = fl f n := fl_congr fun i hi => by simp [part0, hi]
theorem part0_zero (f : Nat → Int) (n : Nat) : List.replicate n 0 = fl (part0 f 0) n := by
  refine List.ext_getElem (by simp [fl]) fun j h1 h2 => ?_
  simp [fl, part0]
theorem Row.madeF {w : World} {B g n : Nat} (f : Nat → Int) (h : w.ownsRow B 3 1 (.slice (some ⟨g, 0, none⟩) n n) n (madeCells #[Value.int .i64 0] n).toList) : Row w B (.slice (some ⟨g, 0, none⟩) n n) (fl (part0 f 0) n) := by
  rw [← part0_zero]
  unfold Row
  rw [List.length_replicate, List.map_replicate]
  rw [toList_madeCells_one] at h
  exact h

set_option maxHeartbeats 1000000 in
theorem toIntS_any (v : Value) (l : List Int) (w : World) (h : Sl w v l) (hl : l.length ≤ 1048576) :
    Calls Tryd.prog 5 #[v] w fun e w' => ∃ v', e = .returned v' ∧ Row w' w.heap.size v' l ∧ Below w.heap.size w w' := by
  obtain ⟨i0, hi, iz0, iz1, iz2⟩ := info_parts Tryd.infoI
  have HF := Lib.hid (fl_of l)
  generalize hf : (fun i => l.getD i 0) = f at *
  generalize hn : l.length = n at *
  by_cases h0 : 0 < n
  · obtain ⟨b, off, cap, rfl, hb, hc⟩ := h.open hn h0
    have hc' : ∀ j, j < n → w.cell? ⟨b, off + j, none⟩ = some (.int .i64 (f j)) := fun j hj => by rw [← hf]; exact hc j hj
    have HC := Lib.hid hc'
    clear hc hc' h hf hn
    go_enter Tryd.func5, Tryd.ntmps5
    go_wp2_with (at_make; refine wpList_make_full _ rfl _ _ 22 rfl w.heap.size 3 i0 (.int .i64 0) 1 Tryd.underlying22 hi iz0 iz1 .i64 .i64 _ _ n rfl rfl rfl rfl ?c3 ?c4 ?c5 ?_)
    case c3 => rw [iz2]; omega
    case c4 => unfold maxLen; omega
    case c5 => omega
    intro w1 hown hgrow
    have HR := Lib.hid (Row.madeF f hown)
    have HB := Lib.hid ((Below.refl w.heap.size w).grown hgrow (Nat.le_refl _) (fun k hk => by cases hk))
    clear hown hgrow
    go_wp2_with fail
    go_loopw [4] (fun vi wr => ∃ i : Nat, i ≤ n ∧ vi = .int .i64 i ∧ Row wr w.heap.size (.slice (some ⟨w.heap.size, 0, none⟩) n n) (fl (part0 f i) n) ∧ Below w.heap.size w wr) (fun vi _ => n - (intOf vi).toNat)
    case atStart => exact ⟨0, Nat.zero_le _, rfl, HR.out, HB.out⟩
    case round =>
      obtain ⟨i, hi, rfl, hr, hbel⟩ := hrel
      by_cases hlt : i < n
      · have e1 := (hbel.cell (p := ⟨b, off + i, none⟩) hb).trans (HC.out i hlt)
        have e2 := Row.cell (l := fl (part0 f i) n) (cap := n) (by rw [fl_len]; exact hr) i (by rw [fl_len]; exact hlt)
        have f2 := hr.frozen (by rw [fl_len]) i
        have HR' := Lib.hid (hr.store (by rw [fl_len]) i (f i))
        have HB' := Lib.hid hbel
        clear hr hbel
        generalize (fl (part0 f i) n).getD i 0 = u at *
        have HS := Lib.hid (part0_step f i)
        generalize f i = x at *
        go_wp2
        go_roundw
        case rel =>
          refine ⟨i + 1, by omega, by go_num, ?_, HB'.out.setCell (Nat.le_refl _) _⟩
          rw [← HS.out, ← fl_set]
          exact HR'.out
        case measure => simp [intOf]; omega
      · obtain rfl : n = i := by omega
        go_wp2
        go_ret
        refine ⟨_, rfl, ?_, hbel⟩
        rw [HF.out, ← part0_all]
        exact hr
  · obtain rfl : n = 0 := by omega
    obtain rfl : l = [] := List.length_eq_zero_iff.1 hn
    obtain ⟨a, cap, rfl⟩ := h.empty
    clear HF hf hn h0 h
    go_enter Tryd.func5, Tryd.ntmps5
    go_wp2_with (at_make; refine wpList_make_full _ rfl _ _ 22 rfl w.heap.size 3 i0 (.int .i64 0) 1 Tryd.underlying22 hi iz0 iz1 .i64 .i64 _ _ 0 rfl rfl rfl rfl ?c3 ?c4 ?c5 ?_)
    case c3 => rw [iz2]; omega
    case c4 => unfold maxLen; omega
    case c5 => omega
    intro w1 hown hgrow
    have HR := Lib.hid (Row.madeF (fun _ => 0) hown)
    have HB := Lib.hid ((Below.refl w.heap.size w).grown hgrow (Nat.le_refl _) (fun k hk => by cases hk))
    clear hown hgrow
    go_wp2_with fail
    (refine wp_loop_rounds 1 ?_; repeat any_goals (rw [rounds_succ]; go_wp2))
    go_wp2
    go_ret
    exact ⟨_, rfl, HR.out, HB.out⟩
end Go.Proofs.YthklnfanbegecabDoor
