/- A bundle of texts: A B. -/
import Derived.Test.YtljijnanmpajaaaGreatProg
import Derived.WalkKit
import Derived.WalkSpells
import Derived.WalkLawsBesides
import Derived.LoopN
import Derived.RowKit3
import Derived.Lib.Hide
import Derived.WalkSmall
import Derived.Deep.QuietTactic
import Derived.BigQuiet
import Derived.Test.YtljijnanmpajaaaGreatKA
namespace Go.Proofs.YtljijnanmpajaaaGreat
open Go.RowKit
theorem ret_bool {a b : Bool} (h : a = b) : Ending.returned (.bool a) = .returned (.bool b) := by rw [h]
theorem ret_int {k : IntKind} {a b : Int} (h : a = b) : Ending.returned (.int k a) = .returned (.int k b) := by rw [h]

theorem bcell {W w1 : World} {B : Nat} (hb : Below B W w1) : (∀ b o, b < B → w1.cell? ⟨b, o, none⟩ = W.cell? ⟨b, o, none⟩) ∧ (∀ b o, b < B → w1.frozen? ⟨b, o, none⟩ = W.frozen? ⟨b, o, none⟩) :=
  ⟨fun b o h => hb.cell (p := ⟨b, o, none⟩) h, fun b o h => hb.frozen (p := ⟨b, o, none⟩) h⟩

theorem take_succ_getD (zs : List Int) (k : Nat) (hk : k < zs.length) : zs.take (k + 1) = zs.take k ++ [zs[k]?.getD 0] := by
  rw [List.take_add_one, List.getElem?_eq_getElem hk]; rfl

/-- spec.l1Has on a slice whose cells are known. -/
theorem has_any (b off len cap : Nat) (zs : List Int) (n : Int) (w : World) (hz : len = zs.length) (hbig : len ≤ 9223372036854775807) (hc : ∀ j, j < zs.length → w.cell? ⟨b, off + j, none⟩ = some (.int .i64 (zs.getD j 0))) :
    Calls Tryz.prog 179 #[.slice (some ⟨b, off, none⟩) len cap, .int .i64 n] w fun e w' => e = .returned (.bool (zs.contains n)) ∧ w = w' := by
  have HZ := Lib.hid hz; clear hz
  go_enter Tryz.func179, Tryz.ntmps179
  go_wp2
  go_loop [9] (fun i => ∃ k : Nat, k ≤ len ∧ i = .int .i64 k ∧ n ∉ zs.take k) (fun i => len - (intOf i).toNat)
  case atStart => exact ⟨0, Nat.zero_le _, rfl, by simp⟩
  case round =>
    obtain ⟨k, hk, rfl, hn⟩ := hrel
    have hcell : k < len → w.cell? ⟨b, off + k, none⟩ = some (.int .i64 (zs.getD k 0)) := fun h => hc _ (by rw [← HZ.out]; exact h)
    have HN := Lib.hid hn; clear hn
    clear hc
    go_wp2
    · have hlt : k < len := by assumption
      have he : (zs[k]?.getD 0 == n) = true := by assumption
      go_ret
      refine ⟨ret_bool ?_, rfl⟩
      have hk2 : k < zs.length := by rw [← HZ.out]; exact hlt
      rw [List.getElem?_eq_getElem hk2] at he
      simp only [Option.getD_some, beq_iff_eq] at he
      have hm : n ∈ zs := by rw [← he]; exact List.getElem_mem hk2
      simp [hm]
    · have hlt : k < len := by assumption
      have he : (zs[k]?.getD 0 == n) = false := by assumption
      refine ⟨⟨k + 1, by omega, by go_num, ?_⟩, by simp [intOf]; omega⟩
      have hk2 : k < zs.length := by rw [← HZ.out]; exact hlt
      rw [take_succ_getD zs k hk2, List.mem_append]
      rintro (h | h)
      · exact HN.out h
      · simp only [List.mem_singleton] at h
        rw [← h] at he
        simp at he
    · have hge : ¬ k < len := by assumption
      go_ret
      refine ⟨ret_bool ?_, rfl⟩
      have hn := HN.out
      rw [List.take_of_length_le (by rw [← HZ.out]; omega)] at hn
      simp [hn]
/-- spec.l1Has on an empty slice. -/
theorem has_nil (a : Option Addr) (cap : Nat) (n : Int) (w : World) :
    Calls Tryz.prog 179 #[.slice a 0 cap, .int .i64 n] w fun e w' => e = .returned (.bool false) ∧ w = w' := by
  go_enter Tryz.func179, Tryz.ntmps179
  go_wp2
  (refine wp_loop_rounds 1 ?_; repeat any_goals (rw [rounds_succ]; go_wp2))
  go_wp2
  go_ret
  exact ⟨rfl, rfl⟩

set_option maxHeartbeats 400000 in
/-- spec.fdSize. -/
theorem fdSize_any (q : Int) (w : World) :
    Calls Tryz.prog 102 #[.int .i64 q] w fun e w' => e = .returned (.bool (isSz q)) ∧ Below w.heap.size w w' := by
  by_cases hq : q ≤ 16
  · go_enter Tryz.func102, Tryz.ntmps102
    go_wp2_with (go_at_call 179; refine (has_any _ 0 10 10 sizes q _ rfl (by omega) ?_).mono ?_)
    · intro j hj
      have : j < 10 := hj
      rcases j with _ | _ | _ | _ | _ | _ | _ | _ | _ | _ | j <;> first | rfl | omega | (simp [go_sem]; rfl)
    · rintro e w' ⟨rfl, rfl⟩
      go_wp2
      go_ret
      exact ⟨ret_bool (by simp [isSz]), by (repeat' (first | (with_reducible assumption) | (with_reducible exact Below.refl _ _) | (with_reducible refine below_drewN ?_ _) | (with_reducible refine Below.drew ?_) | (with_reducible refine Below.alloc ?_ ?_ _) | (with_reducible refine Below.setCell ?_ ?_ _) | (with_reducible refine Below.trans ?_ (Below.mono (by assumption) ?_)) | (with_reducible exact Nat.le_refl _) | (with_reducible assumption) | omega | (simp; omega) | (simp; done)))⟩
  · have hb : isSz q = false := by
      cases h : isSz q with
      | false => rfl
      | true => have := isSz_le q h; omega
    have HB := Lib.hid hb; clear hb
    go_enter Tryz.func102, Tryz.ntmps102
    go_wp2
    go_ret
    exact ⟨ret_bool HB.out.symm, by (repeat' (first | (with_reducible assumption) | (with_reducible exact Below.refl _ _) | (with_reducible refine below_drewN ?_ _) | (with_reducible refine Below.drew ?_) | (with_reducible refine Below.alloc ?_ ?_ _) | (with_reducible refine Below.setCell ?_ ?_ _) | (with_reducible refine Below.trans ?_ (Below.mono (by assumption) ?_)) | (with_reducible exact Nat.le_refl _) | (with_reducible assumption) | omega | (simp; omega) | (simp; done)))⟩
set_option maxHeartbeats 4000000 in
/-- spec.fdPrime at a size. -/
theorem fdPrime_any (q : Int) (w : World) (h : isSz q = true) :
    Calls Tryz.prog 206 #[.int .i64 q] w fun e w' => e = .returned (.tuple #[.int .i64 (pr q), .int .i64 (pl q)]) ∧ w = w' := by
  have hq := sz_split q h
  clear h
  rcases hq with rfl | rfl | rfl | rfl | rfl | rfl | rfl | rfl | rfl | rfl
  all_goals
    go_enter Tryz.func206, Tryz.ntmps206
    go_wp2
    (refine wp_loop_rounds 13 ?_; repeat any_goals (rw [rounds_succ]; go_wp2))
    go_wp2
    (refine wp_loop_rounds 6 ?_; repeat any_goals (rw [rounds_succ]; go_wp2))
    go_wp2
    go_ret2
    exact ⟨rfl, rfl⟩

set_option maxHeartbeats 4000000 in
/-- impl.fieldOf at a size. -/
theorem fieldOf_yes (q : Int) (w : World) (h : isSz q = true) :
    Calls Tryz.prog 90 #[.int .i64 q] w fun e w' => e = .returned (.tuple #[.agg #[.int .i64 q, .int .i64 (pr q), .int .i64 (pl q)], .bool true]) ∧ Below w.heap.size w w' := by
  have hq := sz_split q h
  clear h
  rcases hq with rfl | rfl | rfl | rfl | rfl | rfl | rfl | rfl | rfl | rfl
  all_goals
    go_enter Tryz.func90, Tryz.ntmps90
    go_wp2
    (refine wp_loop_rounds 13 ?_; repeat any_goals (rw [rounds_succ]; go_wp2))
    go_wp2
    (refine wp_loop_rounds 6 ?_; repeat any_goals (rw [rounds_succ]; go_wp2))
    go_wp2
    (refine bodyPost_ret (by simp [results, Tryz.results90, go_sem]; try rfl) rfl ?_)
    exact ⟨rfl, by (repeat' (first | (with_reducible assumption) | (with_reducible exact Below.refl _ _) | (with_reducible refine below_drewN ?_ _) | (with_reducible refine Below.drew ?_) | (with_reducible refine Below.alloc ?_ ?_ _) | (with_reducible refine Below.setCell ?_ ?_ _) | (with_reducible refine Below.trans ?_ (Below.mono (by assumption) ?_)) | (with_reducible exact Nat.le_refl _) | (with_reducible assumption) | omega | (simp; omega) | (simp; done)))⟩

set_option maxHeartbeats 4000000 in
/-- impl.fieldOf elsewhere. -/
theorem fieldOf_no (q : Int) (w : World) (h : isSz q = false) :
    Calls Tryz.prog 90 #[.int .i64 q] w fun e w' => e = .returned (.tuple #[.agg #[.int .i64 0, .int .i64 0, .int .i64 0], .bool false]) ∧ Below w.heap.size w w' := by
  have hq := nsz_split q h
  clear h
  rcases hq with hq | rfl | rfl | rfl | rfl | rfl | hq
  · go_enter Tryz.func90, Tryz.ntmps90
    go_wp2
    (refine bodyPost_ret (by simp [results, Tryz.results90, go_sem]; try rfl) rfl ?_)
    exact ⟨rfl, by (repeat' (first | (with_reducible assumption) | (with_reducible exact Below.refl _ _) | (with_reducible refine below_drewN ?_ _) | (with_reducible refine Below.drew ?_) | (with_reducible refine Below.alloc ?_ ?_ _) | (with_reducible refine Below.setCell ?_ ?_ _) | (with_reducible refine Below.trans ?_ (Below.mono (by assumption) ?_)) | (with_reducible exact Nat.le_refl _) | (with_reducible assumption) | omega | (simp; omega) | (simp; done)))⟩
  iterate 5
    · go_enter Tryz.func90, Tryz.ntmps90
      go_wp2
      (refine wp_loop_rounds 13 ?_; repeat any_goals (rw [rounds_succ]; go_wp2))
      go_wp2
      (refine wp_loop_rounds 6 ?_; repeat any_goals (rw [rounds_succ]; go_wp2))
      go_wp2
      (refine bodyPost_ret (by simp [results, Tryz.results90, go_sem]; try rfl) rfl ?_)
      exact ⟨rfl, by (repeat' (first | (with_reducible assumption) | (with_reducible exact Below.refl _ _) | (with_reducible refine below_drewN ?_ _) | (with_reducible refine Below.drew ?_) | (with_reducible refine Below.alloc ?_ ?_ _) | (with_reducible refine Below.setCell ?_ ?_ _) | (with_reducible refine Below.trans ?_ (Below.mono (by assumption) ?_)) | (with_reducible exact Nat.le_refl _) | (with_reducible assumption) | omega | (simp; omega) | (simp; done)))⟩
  · have hq' : ¬ q < 2 := by omega
    go_enter Tryz.func90, Tryz.ntmps90
    go_wp2
    (refine bodyPost_ret (by simp [results, Tryz.results90, go_sem]; try rfl) rfl ?_)
    exact ⟨rfl, by (repeat' (first | (with_reducible assumption) | (with_reducible exact Below.refl _ _) | (with_reducible refine below_drewN ?_ _) | (with_reducible refine Below.drew ?_) | (with_reducible refine Below.alloc ?_ ?_ _) | (with_reducible refine Below.setCell ?_ ?_ _) | (with_reducible refine Below.trans ?_ (Below.mono (by assumption) ?_)) | (with_reducible exact Nat.le_refl _) | (with_reducible assumption) | omega | (simp; omega) | (simp; done)))⟩
end Go.Proofs.YtljijnanmpajaaaGreat
