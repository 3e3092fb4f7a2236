/- impl.mapped at the functions that chapter 2 begins with: elements of numbers, numbers of elements; impl.validPoly by a contract. -/
import Derived.Test.YthklnfanbegecabDoorHI
import Derived.Test.YthklnfanbegecabDoorHE
namespace Go.Proofs.YthklnfanbegecabDoor
open Go.RowKit
/-- The block of a list that a closure holds. -/
abbrev lblk (T : TypeId) (v : Value) : Obj := .cells #[v] T
theorem at_box {w : World} {b : Nat} {v : Value} {T : TypeId} (h : w.heap[b]? = some (.cells #[v] T (0, 0))) : w.cell? ⟨b, 0, none⟩ = some v := by
  rw [cell_of_row w b 0 _ T (0, 0) h]; rfl

set_option maxHeartbeats 1000000 in
/-- The closure of impl.mapped over numbers, at impl.field.element. -/
theorem cloIE (q x : Int) (i n b off cap A0 A1 : Nat) (w : World) (h : isSz q = true) (x0 : 0 ≤ x) (x1 : x < q) (hin : i < n)
    (c0 : w.cell? ⟨A0, 0, none⟩ = some (.func (.func 18) #[fdE q] #[])) (c1 : w.cell? ⟨A1, 0, none⟩ = some (.slice (some ⟨b, off, none⟩) n cap)) (c2 : w.cell? ⟨b, off + i, none⟩ = some (.int .i64 x)) :
    Calls Tryd.prog 26 #[.int .i64 i, .pointer (some ⟨A0, 0, none⟩), .pointer (some ⟨A1, 0, none⟩)] w fun e w' => e = .returned (elE q x) ∧ Below w.heap.size w w' := by
  have HE := Lib.hid (fun w => elementE q x w h x0 x1)
  have l0 := World.block_lt_of_cell? w _ c0
  have l1 := World.block_lt_of_cell? w _ c1
  have l2 := World.block_lt_of_cell? w _ c2
  simp only at l0 l1 l2
  clear h x0 x1
  go_enter Tryd.func26, Tryd.ntmps26
  go_wp2_with fail
  go_region_with (go_at_call 18; refine (HE.out _).mono ?_; rintro e w1 ⟨rfl, hb1⟩; obtain ⟨hc1, hf1⟩ := bcell hb1; (try simp only [World.size_drew] at hc1 hf1); have hz1 := hb1.size; (try simp at hz1); have HB1 := Lib.hid hb1; clear hb1; have l3 : w.heap.size < w1.heap.size := (by omega))
  all_goals
    go_wp2_with fail
    have hb1 := HB1.out
    have q0 : w1.heap[w.heap.size]? = some zeroblk := (hb1.block _ (by simp)).trans (heap_alloc_new w _)
    obtain ⟨s0, s1, s2, s3, s4, s5, s6, sf, sl⟩ := seven q0
    clear q0
    refine bodyPost_ret (v := elE q x) (by simp [results, Tryd.results26, go_sem, s0, s1, s2, s3, s4, s5, s6]) rfl ⟨rfl, ?_⟩
    (repeat' (first | (with_reducible assumption) | (with_reducible exact Below.refl _ _) | (with_reducible refine below_drewN ?_ _) | (with_reducible refine Below.drew ?_) | (with_reducible refine Below.alloc ?_ ?_ _) | (with_reducible refine Below.setCell ?_ ?_ _) | (with_reducible refine Below.trans ?_ (Below.mono (by assumption) ?_)) | (with_reducible exact Nat.le_refl _) | (with_reducible assumption) | omega | (simp; omega) | (simp; done)))
set_option maxHeartbeats 1000000 in
/-- impl.mapped over numbers, at impl.field.element. -/
theorem mappedIE (q : Int) (v : Value) (l : List Int) (w : World) (h : isSz q = true) (hv : Sl w v l) (ha : l.all (inF q) = true) (hl : l.length ≤ 1000) :
    Calls Tryd.prog 17 #[v, .func (.func 18) #[fdE q] #[]] w fun e w' => ∃ g, e = .returned (.slice (some ⟨g, 0, none⟩) l.length l.length) ∧ w.heap.size ≤ g ∧ Blk w' g l.length ∧ Els w' g q (fun i => l.getD i 0) l.length ∧ Below w.heap.size w w' := by
  have HX : Hid (∀ (T1 T2 : TypeId) (i : Nat) w', i < l.length → Below ((w.alloc (lblk T1 v)).alloc (lblk T2 (.func (.func 18) #[fdE q] #[]))).heap.size ((w.alloc (lblk T1 v)).alloc (lblk T2 (.func (.func 18) #[fdE q] #[]))) w' →
      Calls Tryd.prog 26 #[.int .i64 i, .pointer (some ⟨w.heap.size + 1, 0, none⟩), .pointer (some ⟨w.heap.size, 0, none⟩)] w' fun e w'' => e = .returned (elE q (l.getD i 0)) ∧ Below w'.heap.size w' w'') := Lib.hid fun T1 T2 i w' hi hb => by
    obtain ⟨b, off, cap, rfl, hbl, hc⟩ := hv.open rfl (by omega)
    have hx := List.all_eq_true.1 ha (l.getD i 0) (by rw [show l.getD i 0 = l[i] by simp [List.getD, hi]]; exact List.getElem_mem hi)
    simp only [inF, Bool.and_eq_true, decide_eq_true_eq] at hx
    refine cloIE q _ i l.length b off cap _ _ w' h hx.1 hx.2 hi (at_box (T := T2) ?_) (at_box (T := T1) ?_) ?_
    · rw [hb.block _ (by simp)]
      have := heap_alloc_new (w.alloc (lblk T1 (.slice (some ⟨b, off, none⟩) l.length cap))) (lblk T2 (.func (.func 18) #[fdE q] #[]))
      simpa using this
    · rw [hb.block _ (by simp; omega), Below.heap_alloc _ _ _ (by simp)]
      exact heap_alloc_new w _
    · rw [hb.cell (p := ⟨b, off + i, none⟩) (by simp; omega), World.cell?_alloc_past _ _ _ (by simp; omega), World.cell?_alloc_past _ _ _ hbl]
      exact hc i hi
  obtain ⟨a, cap, rfl⟩ := hv.form
  clear hv ha h
  generalize hf : (fun i => l.getD i 0) = f at *
  have HX' : Hid (∀ (T1 T2 : TypeId) (i : Nat) w', i < l.length → Below ((w.alloc (lblk T1 (.slice a l.length cap))).alloc (lblk T2 (.func (.func 18) #[fdE q] #[]))).heap.size ((w.alloc (lblk T1 (.slice a l.length cap))).alloc (lblk T2 (.func (.func 18) #[fdE q] #[]))) w' →
      Calls Tryd.prog 26 #[.int .i64 i, .pointer (some ⟨w.heap.size + 1, 0, none⟩), .pointer (some ⟨w.heap.size, 0, none⟩)] w' fun e w'' => e = .returned (elE q (f i)) ∧ Below w'.heap.size w' w'') := by
    subst hf
    exact HX
  clear HX hf
  generalize l.length = n at *
  go_enter Tryd.func17, Tryd.ntmps17
  go_wp2_with fail
  refine (listOf_IE q n f (w.heap.size + 1) w.heap.size _ hl (HX'.out _ _)).mono ?_
  rintro e w1 ⟨rfl, hk1, he1, hb1⟩
  have HK := Lib.hid hk1; clear hk1
  have HE := Lib.hid he1; clear he1
  have HB1 := Lib.hid hb1; clear hb1
  go_wp2
  go_ret
  have hb1 := HB1.out
  exact ⟨_, rfl, by omega, by simpa using HK.out, by simpa using HE.out, by (repeat' (first | (with_reducible assumption) | (with_reducible exact Below.refl _ _) | (with_reducible refine below_drewN ?_ _) | (with_reducible refine Below.drew ?_) | (with_reducible refine Below.alloc ?_ ?_ _) | (with_reducible refine Below.setCell ?_ ?_ _) | (with_reducible refine Below.trans ?_ (Below.mono (by assumption) ?_)) | (with_reducible exact Nat.le_refl _) | (with_reducible assumption) | omega | (simp; omega) | (simp; done)))⟩

end Go.Proofs.YthklnfanbegecabDoor
