/- impl.zipped of elements at their products. -/
import Derived.Test.YthklnfanbegecacIF
import Derived.Deep.RegionHeld3
namespace Go.Proofs.Ythklnfanbegecac
open Go.RowKit
set_option maxRecDepth 100000 in
set_option maxHeartbeats 4000000 in
/-- The closure of impl.zipped over elements, at impl.element.times. -/
theorem cloZ_times (q x y z : Int) (i n g1 cap1 g2 cap2 A0 A1 A2 : Nat) (w : World) (hin : i < n)
    (HX : ∀ w', Below w.heap.size w w' → Calls Try.prog 57 #[elE q x, elE q y] w' fun e w'' => e = .returned (elE q z) ∧ Below w'.heap.size w' w'')
    (c0 : w.cell? ⟨A0, 0, none⟩ = some (.func (.func 57) #[] #[])) (c1 : w.cell? ⟨A1, 0, none⟩ = some (.slice (some ⟨g1, 0, none⟩) n cap1)) (c2 : w.cell? ⟨A2, 0, none⟩ = some (.slice (some ⟨g2, 0, none⟩) n cap2))
    (he : w.cell? ⟨g1, i * 7, none⟩ = some (.int .i64 q) ∧ w.cell? ⟨g1, i * 7 + 1, none⟩ = some (.int .i64 (pr q)) ∧ w.cell? ⟨g1, i * 7 + 2, none⟩ = some (.int .i64 (pl q)) ∧
      w.cell? ⟨g1, i * 7 + 3, none⟩ = some (.int .i64 (dg q x 0)) ∧ w.cell? ⟨g1, i * 7 + 4, none⟩ = some (.int .i64 (dg q x 1)) ∧ w.cell? ⟨g1, i * 7 + 5, none⟩ = some (.int .i64 (dg q x 2)) ∧ w.cell? ⟨g1, i * 7 + 6, none⟩ = some (.int .i64 (dg q x 3)))
    (hd : w.cell? ⟨g2, i * 7, none⟩ = some (.int .i64 q) ∧ w.cell? ⟨g2, i * 7 + 1, none⟩ = some (.int .i64 (pr q)) ∧ w.cell? ⟨g2, i * 7 + 2, none⟩ = some (.int .i64 (pl q)) ∧
      w.cell? ⟨g2, i * 7 + 3, none⟩ = some (.int .i64 (dg q y 0)) ∧ w.cell? ⟨g2, i * 7 + 4, none⟩ = some (.int .i64 (dg q y 1)) ∧ w.cell? ⟨g2, i * 7 + 5, none⟩ = some (.int .i64 (dg q y 2)) ∧ w.cell? ⟨g2, i * 7 + 6, none⟩ = some (.int .i64 (dg q y 3))) :
    Calls Try.prog 75 #[.int .i64 i, .pointer (some ⟨A0, 0, none⟩), .pointer (some ⟨A1, 0, none⟩), .pointer (some ⟨A2, 0, none⟩)] w fun e w' => e = .returned (elE q z) ∧ Below w.heap.size w w' := by
  have HXX := Lib.hid HX; clear HX
  obtain ⟨e0, e1, e2, e3, e4, e5, e6⟩ := he
  obtain ⟨d0, d1, d2, d3, d4, d5, d6⟩ := hd
  have l0 := World.block_lt_of_cell? w _ c0
  have l1 := World.block_lt_of_cell? w _ c1
  have l2 := World.block_lt_of_cell? w _ c2
  have l3 := World.block_lt_of_cell? w _ e0
  have l4 := World.block_lt_of_cell? w _ d0
  simp only at l0 l1 l2 l3 l4
  go_enter Try.func75, Try.ntmps75
  go_wp2_with fail
  have HKEEP : Hid (∀ w', Below w.heap.size w w' → w'.cell? ⟨A0, 0, none⟩ = some (.func (.func 57) #[] #[]) ∧ w'.cell? ⟨A1, 0, none⟩ = some (.slice (some ⟨g1, 0, none⟩) n cap1) ∧ w'.cell? ⟨A2, 0, none⟩ = some (.slice (some ⟨g2, 0, none⟩) n cap2) ∧ w'.cell? ⟨g1, i * 7, none⟩ = some (.int .i64 q) ∧ w'.cell? ⟨g1, i * 7 + 1, none⟩ = some (.int .i64 (pr q)) ∧ w'.cell? ⟨g1, i * 7 + 2, none⟩ = some (.int .i64 (pl q)) ∧ w'.cell? ⟨g1, i * 7 + 3, none⟩ = some (.int .i64 (dg q x 0)) ∧ w'.cell? ⟨g1, i * 7 + 4, none⟩ = some (.int .i64 (dg q x 1)) ∧ w'.cell? ⟨g1, i * 7 + 5, none⟩ = some (.int .i64 (dg q x 2)) ∧ w'.cell? ⟨g1, i * 7 + 6, none⟩ = some (.int .i64 (dg q x 3)) ∧ w'.cell? ⟨g2, i * 7, none⟩ = some (.int .i64 q) ∧ w'.cell? ⟨g2, i * 7 + 1, none⟩ = some (.int .i64 (pr q)) ∧ w'.cell? ⟨g2, i * 7 + 2, none⟩ = some (.int .i64 (pl q)) ∧ w'.cell? ⟨g2, i * 7 + 3, none⟩ = some (.int .i64 (dg q y 0)) ∧ w'.cell? ⟨g2, i * 7 + 4, none⟩ = some (.int .i64 (dg q y 1)) ∧ w'.cell? ⟨g2, i * 7 + 5, none⟩ = some (.int .i64 (dg q y 2)) ∧ w'.cell? ⟨g2, i * 7 + 6, none⟩ = some (.int .i64 (dg q y 3))) := Lib.hid fun w' hb => by
    exact ⟨(hb.cell (p := ⟨A0, 0, none⟩) l0).trans c0, (hb.cell (p := ⟨A1, 0, none⟩) l1).trans c1, (hb.cell (p := ⟨A2, 0, none⟩) l2).trans c2, (hb.cell (p := ⟨g1, i * 7, none⟩) l3).trans e0, (hb.cell (p := ⟨g1, i * 7 + 1, none⟩) l3).trans e1, (hb.cell (p := ⟨g1, i * 7 + 2, none⟩) l3).trans e2, (hb.cell (p := ⟨g1, i * 7 + 3, none⟩) l3).trans e3, (hb.cell (p := ⟨g1, i * 7 + 4, none⟩) l3).trans e4, (hb.cell (p := ⟨g1, i * 7 + 5, none⟩) l3).trans e5, (hb.cell (p := ⟨g1, i * 7 + 6, none⟩) l3).trans e6, (hb.cell (p := ⟨g2, i * 7, none⟩) l4).trans d0, (hb.cell (p := ⟨g2, i * 7 + 1, none⟩) l4).trans d1, (hb.cell (p := ⟨g2, i * 7 + 2, none⟩) l4).trans d2, (hb.cell (p := ⟨g2, i * 7 + 3, none⟩) l4).trans d3, (hb.cell (p := ⟨g2, i * 7 + 4, none⟩) l4).trans d4, (hb.cell (p := ⟨g2, i * 7 + 5, none⟩) l4).trans d5, (hb.cell (p := ⟨g2, i * 7 + 6, none⟩) l4).trans d6⟩
  go_region_held3 (fun w' => w'.cell? ⟨A0, 0, none⟩ = some (.func (.func 57) #[] #[]) ∧ w'.cell? ⟨A1, 0, none⟩ = some (.slice (some ⟨g1, 0, none⟩) n cap1) ∧ w'.cell? ⟨A2, 0, none⟩ = some (.slice (some ⟨g2, 0, none⟩) n cap2) ∧ w'.cell? ⟨g1, i * 7, none⟩ = some (.int .i64 q) ∧ w'.cell? ⟨g1, i * 7 + 1, none⟩ = some (.int .i64 (pr q)) ∧ w'.cell? ⟨g1, i * 7 + 2, none⟩ = some (.int .i64 (pl q)) ∧ w'.cell? ⟨g1, i * 7 + 3, none⟩ = some (.int .i64 (dg q x 0)) ∧ w'.cell? ⟨g1, i * 7 + 4, none⟩ = some (.int .i64 (dg q x 1)) ∧ w'.cell? ⟨g1, i * 7 + 5, none⟩ = some (.int .i64 (dg q x 2)) ∧ w'.cell? ⟨g1, i * 7 + 6, none⟩ = some (.int .i64 (dg q x 3)) ∧ w'.cell? ⟨g2, i * 7, none⟩ = some (.int .i64 q) ∧ w'.cell? ⟨g2, i * 7 + 1, none⟩ = some (.int .i64 (pr q)) ∧ w'.cell? ⟨g2, i * 7 + 2, none⟩ = some (.int .i64 (pl q)) ∧ w'.cell? ⟨g2, i * 7 + 3, none⟩ = some (.int .i64 (dg q y 0)) ∧ w'.cell? ⟨g2, i * 7 + 4, none⟩ = some (.int .i64 (dg q y 1)) ∧ w'.cell? ⟨g2, i * 7 + 5, none⟩ = some (.int .i64 (dg q y 2)) ∧ w'.cell? ⟨g2, i * 7 + 6, none⟩ = some (.int .i64 (dg q y 3)))
    (exact HKEEP.out _ (by (try have hb1 := HB1.out); (repeat' (first | (with_reducible assumption) | (with_reducible exact Below.refl _ _) | (with_reducible refine below_drewN ?_ _) | (with_reducible refine Below.drew ?_) | (with_reducible refine Below.alloc ?_ ?_ _) | (with_reducible refine Below.setCell ?_ ?_ _) | (with_reducible refine Below.trans ?_ (Below.mono (by assumption) ?_)) | (with_reducible exact Nat.le_refl _) | (with_reducible assumption) | omega | (simp; omega) | (simp; done)))))
    (first | (go_at_call 57; refine (HXX.out _ (by (repeat' (first | (with_reducible assumption) | (with_reducible exact Below.refl _ _) | (with_reducible refine below_drewN ?_ _) | (with_reducible refine Below.drew ?_) | (with_reducible refine Below.alloc ?_ ?_ _) | (with_reducible refine Below.setCell ?_ ?_ _) | (with_reducible refine Below.trans ?_ (Below.mono (by assumption) ?_)) | (with_reducible exact Nat.le_refl _) | (with_reducible assumption) | omega | (simp; omega) | (simp; done))))).mono ?_; rintro e w1 ⟨rfl, hb1⟩; obtain ⟨hc1, hf1⟩ := bcell hb1; (try simp only [World.size_drew] at hc1 hf1); have hz1 := hb1.size; (try simp at hz1); have HB1 := Lib.hid hb1; clear hb1; have l5 : w.heap.size < w1.heap.size := (by omega)))
  all_goals
    go_wp2_with fail
    have hb1 := HB1.out
    have q0 : w1.heap[w.heap.size]? = some zeroblk := (hb1.block _ (by simp)).trans (heap_alloc_new w _)
    obtain ⟨s0, s1, s2, s3, s4, s5, s6, sf, sl⟩ := seven q0
    clear q0
    refine bodyPost_ret (v := elE q z) (by simp [results, Try.results75, go_sem, s0, s1, s2, s3, s4, s5, s6]) rfl ⟨rfl, ?_⟩
    (repeat' (first | (with_reducible assumption) | (with_reducible exact Below.refl _ _) | (with_reducible refine below_drewN ?_ _) | (with_reducible refine Below.drew ?_) | (with_reducible refine Below.alloc ?_ ?_ _) | (with_reducible refine Below.setCell ?_ ?_ _) | (with_reducible refine Below.trans ?_ (Below.mono (by assumption) ?_)) | (with_reducible exact Nat.le_refl _) | (with_reducible assumption) | omega | (simp; omega) | (simp; done)))
set_option maxHeartbeats 2000000 in
/-- impl.zipped over elements, at impl.element.times. -/
theorem zipped_times (q : Int) (v1 v2 : Value) (f g u : Nat → Int) (n : Nat) (w : World) (hv1 : Se w v1 q f n) (hv2 : Se w v2 q g n) (hl : n ≤ 1000)
    (HC : ∀ i, i < n → ∀ w', Below w.heap.size w w' → Calls Try.prog 57 #[elE q (f i), elE q (g i)] w' fun e w'' => e = .returned (elE q (u i)) ∧ Below w'.heap.size w' w'') :
    Calls Try.prog 56 #[v1, v2, .func (.func 57) #[] #[]] w fun e w' => ∃ g', e = .returned (.slice (some ⟨g', 0, none⟩) n n) ∧ w.heap.size ≤ g' ∧ Blk w' g' n ∧ Els w' g' q u n ∧ Below w.heap.size w w' := by
  obtain ⟨g1, cap1, rfl, hg1, he1⟩ := hv1
  obtain ⟨g2, cap2, rfl, hg2, he2⟩ := hv2
  have HX : Hid (∀ (T1 T2 T3 : TypeId) (i : Nat) w', i < n → Below (((w.alloc (.cells #[.slice (some ⟨g1, 0, none⟩) n cap1] T1)).alloc (.cells #[.slice (some ⟨g2, 0, none⟩) n cap2] T2)).alloc (.cells #[.func (.func 57) #[] #[]] T3)).heap.size (((w.alloc (.cells #[.slice (some ⟨g1, 0, none⟩) n cap1] T1)).alloc (.cells #[.slice (some ⟨g2, 0, none⟩) n cap2] T2)).alloc (.cells #[.func (.func 57) #[] #[]] T3)) w' →
      Calls Try.prog 75 #[.int .i64 i, .pointer (some ⟨w.heap.size + 1 + 1, 0, none⟩), .pointer (some ⟨w.heap.size, 0, none⟩), .pointer (some ⟨w.heap.size + 1, 0, none⟩)] w' fun e w'' => e = .returned (elE q (u i)) ∧ Below w'.heap.size w' w'') := Lib.hid fun T1 T2 T3 i w' hi hb => by
    have hbw : Below w.heap.size w w' := by (repeat' (first | (with_reducible assumption) | (with_reducible exact Below.refl _ _) | (with_reducible refine below_drewN ?_ _) | (with_reducible refine Below.drew ?_) | (with_reducible refine Below.alloc ?_ ?_ _) | (with_reducible refine Below.setCell ?_ ?_ _) | (with_reducible refine Below.trans ?_ (Below.mono (by assumption) ?_)) | (with_reducible exact Nat.le_refl _) | (with_reducible assumption) | omega | (simp; omega) | (simp; done)))
    obtain ⟨t0, t1, t2⟩ := three w (.cells #[.slice (some ⟨g1, 0, none⟩) n cap1] T1) (.cells #[.slice (some ⟨g2, 0, none⟩) n cap2] T2) (.cells #[.func (.func 57) #[] #[]] T3)
    refine cloZ_times q _ _ _ i n g1 cap1 g2 cap2 _ _ _ w' hi (fun w'' hb'' => HC i hi w'' (hbw.trans (hb''.mono hbw.size))) (at_box (T := T3) ?_) (at_box (T := T1) ?_) (at_box (T := T2) ?_) ((he1.below hbw hg1) i hi) ((he2.below hbw hg2) i hi)
    · rw [hb.block _ (by simp)]
      exact t2
    · rw [hb.block _ (by simp; omega)]
      exact t0
    · rw [hb.block _ (by simp)]
      exact t1
  clear HC he1 he2
  go_enter Try.func56, Try.ntmps56
  go_wp2_with fail
  refine (listOf_Z q n u (w.heap.size + 1 + 1) w.heap.size (w.heap.size + 1) _ hl (HX.out _ _ _)).mono ?_
  rintro e w1 ⟨rfl, hk1, he1, hb1⟩
  have HK := Lib.hid hk1; clear hk1
  have HE := Lib.hid he1; clear he1
  have HB1 := Lib.hid hb1; clear hb1
  go_wp2
  go_ret
  have hb1 := HB1.out
  exact ⟨_, rfl, by omega, by simpa using HK.out, by simpa using HE.out, by (repeat' (first | (with_reducible assumption) | (with_reducible exact Below.refl _ _) | (with_reducible refine below_drewN ?_ _) | (with_reducible refine Below.drew ?_) | (with_reducible refine Below.alloc ?_ ?_ _) | (with_reducible refine Below.setCell ?_ ?_ _) | (with_reducible refine Below.trans ?_ (Below.mono (by assumption) ?_)) | (with_reducible exact Nat.le_refl _) | (with_reducible assumption) | omega | (simp; omega) | (simp; done)))⟩
end Go.Proofs.Ythklnfanbegecac
