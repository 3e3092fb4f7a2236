/- impl.mapped over elements at methods of a receiver, by contracts; impl.validPolyAndElement by a contract. -/
import Derived.Test.YthklnfanbegecacHK
namespace Go.Proofs.Ythklnfanbegecac
open Go.RowKit
theorem drew_heap (w : World) (k : Nat) : w.drew.heap[k]? = w.heap[k]? := rfl

set_option maxHeartbeats 1000000 in
/-- The closure of impl.mapped over elements, at impl.poly.at. -/
theorem clo_at (q x y : Int) (R : Value) (i n g cap A0 A1 : Nat) (w : World) (hin : i < n)
    (HX : ∀ w', Below w.heap.size w w' → Calls Try.prog 35 #[R, elE q x] w' fun e w'' => e = .returned (elE q y) ∧ Below w'.heap.size w' w'')
    (c0 : w.cell? ⟨A0, 0, none⟩ = some (.func (.func 35) #[R] #[])) (c1 : w.cell? ⟨A1, 0, none⟩ = some (.slice (some ⟨g, 0, none⟩) n cap))
    (he : w.cell? ⟨g, i * 7, none⟩ = some (.int .i64 q) ∧ w.cell? ⟨g, i * 7 + 1, none⟩ = some (.int .i64 (pr q)) ∧ w.cell? ⟨g, i * 7 + 2, none⟩ = some (.int .i64 (pl q)) ∧
      w.cell? ⟨g, i * 7 + 3, none⟩ = some (.int .i64 (dg q x 0)) ∧ w.cell? ⟨g, i * 7 + 4, none⟩ = some (.int .i64 (dg q x 1)) ∧ w.cell? ⟨g, i * 7 + 5, none⟩ = some (.int .i64 (dg q x 2)) ∧ w.cell? ⟨g, i * 7 + 6, none⟩ = some (.int .i64 (dg q x 3))) :
    Calls Try.prog 60 #[.int .i64 i, .pointer (some ⟨A0, 0, none⟩), .pointer (some ⟨A1, 0, none⟩)] w fun e w' => e = .returned (elE q y) ∧ Below w.heap.size w w' := by
  have HXX := Lib.hid HX; clear HX
  obtain ⟨e0, e1, e2, e3, e4, e5, e6⟩ := he
  have l0 := World.block_lt_of_cell? w _ c0
  have l1 := World.block_lt_of_cell? w _ c1
  have l2 := World.block_lt_of_cell? w _ e0
  simp only at l0 l1 l2
  go_enter Try.func60, Try.ntmps60
  go_wp2_with fail
  go_region_with (go_at_call 35; refine (HXX.out _ (by (repeat' (first | (with_reducible assumption) | (with_reducible exact Below.refl _ _) | (with_reducible refine below_drewN ?_ _) | (with_reducible refine Below.drew ?_) | (with_reducible refine Below.alloc ?_ ?_ _) | (with_reducible refine Below.setCell ?_ ?_ _) | (with_reducible refine Below.trans ?_ (Below.mono (by assumption) ?_)) | (with_reducible exact Nat.le_refl _) | (with_reducible assumption) | omega | (simp; omega) | (simp; done))))).mono ?_; rintro e w1 ⟨rfl, hb1⟩; obtain ⟨hc1, hf1⟩ := bcell hb1; (try simp only [World.size_drew] at hc1 hf1); have hz1 := hb1.size; (try simp at hz1); have HB1 := Lib.hid hb1; clear hb1; have l3 : w.heap.size < w1.heap.size := (by omega))
  all_goals
    go_wp2_with fail
    have hb1 := HB1.out
    have q0 : w1.heap[w.heap.size]? = some zeroblk := (hb1.block _ (by simp)).trans (heap_alloc_new w _)
    obtain ⟨s0, s1, s2, s3, s4, s5, s6, sf, sl⟩ := seven q0
    clear q0
    refine bodyPost_ret (v := elE q y) (by simp [results, Try.results60, go_sem, s0, s1, s2, s3, s4, s5, s6]) rfl ⟨rfl, ?_⟩
    (repeat' (first | (with_reducible assumption) | (with_reducible exact Below.refl _ _) | (with_reducible refine below_drewN ?_ _) | (with_reducible refine Below.drew ?_) | (with_reducible refine Below.alloc ?_ ?_ _) | (with_reducible refine Below.setCell ?_ ?_ _) | (with_reducible refine Below.trans ?_ (Below.mono (by assumption) ?_)) | (with_reducible exact Nat.le_refl _) | (with_reducible assumption) | omega | (simp; omega) | (simp; done)))
set_option maxHeartbeats 1000000 in
/-- impl.mapped over elements, at impl.poly.at. -/
theorem mapped_at (q : Int) (R v : Value) (f f2 : Nat → Int) (n : Nat) (w : World) (hv : Se w v q f n) (hl : n ≤ 1000)
    (HC : ∀ i, i < n → ∀ w', Below w.heap.size w w' → Calls Try.prog 35 #[R, elE q (f i)] w' fun e w'' => e = .returned (elE q (f2 i)) ∧ Below w'.heap.size w' w'') :
    Calls Try.prog 33 #[v, .func (.func 35) #[R] #[]] w fun e w' => ∃ g, e = .returned (.slice (some ⟨g, 0, none⟩) n n) ∧ w.heap.size ≤ g ∧ Blk w' g n ∧ Els w' g q f2 n ∧ Below w.heap.size w w' := by
  obtain ⟨g, cap, rfl, hg, he⟩ := hv
  have HX : Hid (∀ (T1 T2 : TypeId) (i : Nat) w', i < n → Below ((w.alloc (.cells #[.slice (some ⟨g, 0, none⟩) n cap] T1)).alloc (.cells #[.func (.func 35) #[R] #[]] T2)).heap.size ((w.alloc (.cells #[.slice (some ⟨g, 0, none⟩) n cap] T1)).alloc (.cells #[.func (.func 35) #[R] #[]] T2)) w' →
      Calls Try.prog 60 #[.int .i64 i, .pointer (some ⟨w.heap.size + 1, 0, none⟩), .pointer (some ⟨w.heap.size, 0, none⟩)] w' fun e w'' => e = .returned (elE q (f2 i)) ∧ Below w'.heap.size w' w'') := Lib.hid fun T1 T2 i w' hi hb => by
    have hbw : Below w.heap.size w w' := by (repeat' (first | (with_reducible assumption) | (with_reducible exact Below.refl _ _) | (with_reducible refine below_drewN ?_ _) | (with_reducible refine Below.drew ?_) | (with_reducible refine Below.alloc ?_ ?_ _) | (with_reducible refine Below.setCell ?_ ?_ _) | (with_reducible refine Below.trans ?_ (Below.mono (by assumption) ?_)) | (with_reducible exact Nat.le_refl _) | (with_reducible assumption) | omega | (simp; omega) | (simp; done)))
    refine clo_at q _ _ R i n g cap _ _ w' hi (fun w'' hb'' => HC i hi w'' (hbw.trans (hb''.mono hbw.size))) (at_box (T := T2) ?_) (at_box (T := T1) ?_) ?_
    · rw [hb.block _ (by simp)]
      have := heap_alloc_new (w.alloc (.cells #[.slice (some ⟨g, 0, none⟩) n cap] T1)) (.cells #[.func (.func 35) #[R] #[]] T2)
      simpa using this
    · rw [hb.block _ (by simp; omega), Below.heap_alloc _ _ _ (by simp)]
      exact heap_alloc_new w _
    · exact (he.below hbw hg) i hi
  clear HC he
  go_enter Try.func33, Try.ntmps33
  go_wp2_with fail
  refine (listOf_EE q n f2 (w.heap.size + 1) w.heap.size _ hl (HX.out _ _)).mono ?_
  rintro e w1 ⟨rfl, hk1, he1, hb1⟩
  have HK := Lib.hid hk1; clear hk1
  have HE := Lib.hid he1; clear he1
  have HB1 := Lib.hid hb1; clear hb1
  go_wp2
  go_ret
  have hb1 := HB1.out
  exact ⟨_, rfl, by omega, by simpa using HK.out, by simpa using HE.out, by (repeat' (first | (with_reducible assumption) | (with_reducible exact Below.refl _ _) | (with_reducible refine below_drewN ?_ _) | (with_reducible refine Below.drew ?_) | (with_reducible refine Below.alloc ?_ ?_ _) | (with_reducible refine Below.setCell ?_ ?_ _) | (with_reducible refine Below.trans ?_ (Below.mono (by assumption) ?_)) | (with_reducible exact Nat.le_refl _) | (with_reducible assumption) | omega | (simp; omega) | (simp; done)))⟩

set_option maxHeartbeats 1000000 in
/-- The closure of impl.mapped over elements, at impl.element.times. -/
theorem clo_times (q x y : Int) (R : Value) (i n g cap A0 A1 : Nat) (w : World) (hin : i < n)
    (HX : ∀ w', Below w.heap.size w w' → Calls Try.prog 57 #[R, elE q x] w' fun e w'' => e = .returned (elE q y) ∧ Below w'.heap.size w' w'')
    (c0 : w.cell? ⟨A0, 0, none⟩ = some (.func (.func 57) #[R] #[])) (c1 : w.cell? ⟨A1, 0, none⟩ = some (.slice (some ⟨g, 0, none⟩) n cap))
    (he : w.cell? ⟨g, i * 7, none⟩ = some (.int .i64 q) ∧ w.cell? ⟨g, i * 7 + 1, none⟩ = some (.int .i64 (pr q)) ∧ w.cell? ⟨g, i * 7 + 2, none⟩ = some (.int .i64 (pl q)) ∧
      w.cell? ⟨g, i * 7 + 3, none⟩ = some (.int .i64 (dg q x 0)) ∧ w.cell? ⟨g, i * 7 + 4, none⟩ = some (.int .i64 (dg q x 1)) ∧ w.cell? ⟨g, i * 7 + 5, none⟩ = some (.int .i64 (dg q x 2)) ∧ w.cell? ⟨g, i * 7 + 6, none⟩ = some (.int .i64 (dg q x 3))) :
    Calls Try.prog 60 #[.int .i64 i, .pointer (some ⟨A0, 0, none⟩), .pointer (some ⟨A1, 0, none⟩)] w fun e w' => e = .returned (elE q y) ∧ Below w.heap.size w w' := by
  have HXX := Lib.hid HX; clear HX
  obtain ⟨e0, e1, e2, e3, e4, e5, e6⟩ := he
  have l0 := World.block_lt_of_cell? w _ c0
  have l1 := World.block_lt_of_cell? w _ c1
  have l2 := World.block_lt_of_cell? w _ e0
  simp only at l0 l1 l2
  go_enter Try.func60, Try.ntmps60
  go_wp2_with fail
  go_region_with (go_at_call 57; refine (HXX.out _ (by (repeat' (first | (with_reducible assumption) | (with_reducible exact Below.refl _ _) | (with_reducible refine below_drewN ?_ _) | (with_reducible refine Below.drew ?_) | (with_reducible refine Below.alloc ?_ ?_ _) | (with_reducible refine Below.setCell ?_ ?_ _) | (with_reducible refine Below.trans ?_ (Below.mono (by assumption) ?_)) | (with_reducible exact Nat.le_refl _) | (with_reducible assumption) | omega | (simp; omega) | (simp; done))))).mono ?_; rintro e w1 ⟨rfl, hb1⟩; obtain ⟨hc1, hf1⟩ := bcell hb1; (try simp only [World.size_drew] at hc1 hf1); have hz1 := hb1.size; (try simp at hz1); have HB1 := Lib.hid hb1; clear hb1; have l3 : w.heap.size < w1.heap.size := (by omega))
  all_goals
    go_wp2_with fail
    have hb1 := HB1.out
    have q0 : w1.heap[w.heap.size]? = some zeroblk := (hb1.block _ (by simp)).trans (heap_alloc_new w _)
    obtain ⟨s0, s1, s2, s3, s4, s5, s6, sf, sl⟩ := seven q0
    clear q0
    refine bodyPost_ret (v := elE q y) (by simp [results, Try.results60, go_sem, s0, s1, s2, s3, s4, s5, s6]) rfl ⟨rfl, ?_⟩
    (repeat' (first | (with_reducible assumption) | (with_reducible exact Below.refl _ _) | (with_reducible refine below_drewN ?_ _) | (with_reducible refine Below.drew ?_) | (with_reducible refine Below.alloc ?_ ?_ _) | (with_reducible refine Below.setCell ?_ ?_ _) | (with_reducible refine Below.trans ?_ (Below.mono (by assumption) ?_)) | (with_reducible exact Nat.le_refl _) | (with_reducible assumption) | omega | (simp; omega) | (simp; done)))
set_option maxHeartbeats 1000000 in
/-- impl.mapped over elements, at impl.element.times. -/
theorem mapped_times (q : Int) (R v : Value) (f f2 : Nat → Int) (n : Nat) (w : World) (hv : Se w v q f n) (hl : n ≤ 1000)
    (HC : ∀ i, i < n → ∀ w', Below w.heap.size w w' → Calls Try.prog 57 #[R, elE q (f i)] w' fun e w'' => e = .returned (elE q (f2 i)) ∧ Below w'.heap.size w' w'') :
    Calls Try.prog 33 #[v, .func (.func 57) #[R] #[]] w fun e w' => ∃ g, e = .returned (.slice (some ⟨g, 0, none⟩) n n) ∧ w.heap.size ≤ g ∧ Blk w' g n ∧ Els w' g q f2 n ∧ Below w.heap.size w w' := by
  obtain ⟨g, cap, rfl, hg, he⟩ := hv
  have HX : Hid (∀ (T1 T2 : TypeId) (i : Nat) w', i < n → Below ((w.alloc (.cells #[.slice (some ⟨g, 0, none⟩) n cap] T1)).alloc (.cells #[.func (.func 57) #[R] #[]] T2)).heap.size ((w.alloc (.cells #[.slice (some ⟨g, 0, none⟩) n cap] T1)).alloc (.cells #[.func (.func 57) #[R] #[]] T2)) w' →
      Calls Try.prog 60 #[.int .i64 i, .pointer (some ⟨w.heap.size + 1, 0, none⟩), .pointer (some ⟨w.heap.size, 0, none⟩)] w' fun e w'' => e = .returned (elE q (f2 i)) ∧ Below w'.heap.size w' w'') := Lib.hid fun T1 T2 i w' hi hb => by
    have hbw : Below w.heap.size w w' := by (repeat' (first | (with_reducible assumption) | (with_reducible exact Below.refl _ _) | (with_reducible refine below_drewN ?_ _) | (with_reducible refine Below.drew ?_) | (with_reducible refine Below.alloc ?_ ?_ _) | (with_reducible refine Below.setCell ?_ ?_ _) | (with_reducible refine Below.trans ?_ (Below.mono (by assumption) ?_)) | (with_reducible exact Nat.le_refl _) | (with_reducible assumption) | omega | (simp; omega) | (simp; done)))
    refine clo_times q _ _ R i n g cap _ _ w' hi (fun w'' hb'' => HC i hi w'' (hbw.trans (hb''.mono hbw.size))) (at_box (T := T2) ?_) (at_box (T := T1) ?_) ?_
    · rw [hb.block _ (by simp)]
      have := heap_alloc_new (w.alloc (.cells #[.slice (some ⟨g, 0, none⟩) n cap] T1)) (.cells #[.func (.func 57) #[R] #[]] T2)
      simpa using this
    · rw [hb.block _ (by simp; omega), Below.heap_alloc _ _ _ (by simp)]
      exact heap_alloc_new w _
    · exact (he.below hbw hg) i hi
  clear HC he
  go_enter Try.func33, Try.ntmps33
  go_wp2_with fail
  refine (listOf_EE q n f2 (w.heap.size + 1) w.heap.size _ hl (HX.out _ _)).mono ?_
  rintro e w1 ⟨rfl, hk1, he1, hb1⟩
  have HK := Lib.hid hk1; clear hk1
  have HE := Lib.hid he1; clear he1
  have HB1 := Lib.hid hb1; clear hb1
  go_wp2
  go_ret
  have hb1 := HB1.out
  exact ⟨_, rfl, by omega, by simpa using HK.out, by simpa using HE.out, by (repeat' (first | (with_reducible assumption) | (with_reducible exact Below.refl _ _) | (with_reducible refine below_drewN ?_ _) | (with_reducible refine Below.drew ?_) | (with_reducible refine Below.alloc ?_ ?_ _) | (with_reducible refine Below.setCell ?_ ?_ _) | (with_reducible refine Below.trans ?_ (Below.mono (by assumption) ?_)) | (with_reducible exact Nat.le_refl _) | (with_reducible assumption) | omega | (simp; omega) | (simp; done)))⟩

set_option maxHeartbeats 2000000 in
/-- impl.validPolyAndElement. -/
theorem vpe_yes (q a : Int) (v : Value) (l : List Int) (w : World) (h : isSz q = true) (hv : Sl w v l) (hg : good q l = true) (ha : inE q a = true) :
    Calls Try.prog 22 #[.int .i64 q, v, .int .i64 a] w fun e w' => ∃ g, e = .returned (.tuple #[polyE q (.slice (some ⟨g, 0, none⟩) l.length l.length), elE q a, .bool true]) ∧ w.heap.size ≤ g ∧ Blk w' g l.length ∧ Els w' g q (fun i => l.getD i 0) l.length ∧ Below w.heap.size w w' := by
  have HP := Lib.hid (fun w' (hb : Below w.heap.size w w') => validPoly_yes q v l w' h (hv.below hb (Nat.le_refl _)) hg)
  have HE := Lib.hid (fun w => elementOf_yes q a w ha)
  clear h hv hg ha
  generalize (fun i => l.getD i 0) = f at *
  generalize l.length = n at *
  go_enter Try.func22, Try.ntmps22
  go_wp2_with fail
  refine (HP.out _ (by (repeat' (first | (with_reducible assumption) | (with_reducible exact Below.refl _ _) | (with_reducible refine below_drewN ?_ _) | (with_reducible refine Below.drew ?_) | (with_reducible refine Below.alloc ?_ ?_ _) | (with_reducible refine Below.setCell ?_ ?_ _) | (with_reducible refine Below.trans ?_ (Below.mono (by assumption) ?_)) | (with_reducible exact Nat.le_refl _) | (with_reducible assumption) | omega | (simp; omega) | (simp; done))))).mono ?_
  rintro e w1 ⟨g, rfl, hgg, hk1, he1, hb1⟩
  simp at hgg
  have HK1 := Lib.hid hk1; clear hk1
  have HE1 := Lib.hid he1; clear he1
  have hgl := HK1.out.lt
  obtain ⟨hc1, hf1⟩ := bcell hb1; have hz1 := hb1.size; (try simp at hz1); have HB1 := Lib.hid hb1; clear hb1
  have l1 : w.heap.size < w1.heap.size := by omega
  have l1' : w.heap.size + 1 < w1.heap.size := by omega
  go_wp2_with fail
  refine (HE.out _).mono ?_
  rintro e w2 ⟨rfl, hb2⟩
  obtain ⟨hc2, hf2⟩ := bcell hb2; have hz2 := hb2.size; (try simp at hz2); have HB2 := Lib.hid hb2; clear hb2
  have l2 : w.heap.size < w2.heap.size := by omega
  have l2' : w.heap.size + 1 < w2.heap.size := by omega
  have l3 : w1.heap.size < w2.heap.size := by omega
  go_wp2_with fail
  go_region
  all_goals
    go_wp2_with fail
    have hb1 := HB1.out
    have hb2 := HB2.out
    have hbw : Below (w.heap.size + 2) ((w.alloc pzblk).alloc zblk) w2 := by (repeat' (first | (with_reducible assumption) | (with_reducible exact Below.refl _ _) | (with_reducible refine below_drewN ?_ _) | (with_reducible refine Below.drew ?_) | (with_reducible refine Below.alloc ?_ ?_ _) | (with_reducible refine Below.setCell ?_ ?_ _) | (with_reducible refine Below.trans ?_ (Below.mono (by assumption) ?_)) | (with_reducible exact Nat.le_refl _) | (with_reducible assumption) | omega | (simp; omega) | (simp; done)))
    have q0 : w2.heap[w.heap.size]? = some pzblk := (hbw.block _ (by omega)).trans ((Below.heap_alloc _ _ _ (by simp)).trans (heap_alloc_new w _))
    have q1 : w2.heap[w.heap.size + 1]? = some zblk := (hbw.block _ (by omega)).trans (by have := heap_alloc_new (w.alloc pzblk) zblk; simpa using this)
    obtain ⟨s0, s1, s2, s3, sf, sl⟩ := cells4 q0
    obtain ⟨t0, t1, t2, t3, t4, t5, t6, tf, tl⟩ := seven q1
    clear q0 q1
    have hgl2 : g < w2.heap.size := by omega
    refine bodyPost_ret (v := .tuple #[polyE q (.slice (some ⟨g, 0, none⟩) n n), elE q a, .bool true]) (by simp [results, Try.results22, go_sem, s0, s1, s2, s3, t0, t1, t2, t3, t4, t5, t6, l2, l2']) rfl ⟨g, rfl, by omega, ?_, ?_, ?_⟩
    · refine Blk.same (Blk.below HK1.out (B := w1.heap.size) (w' := w2) (((Below.refl _ _).alloc (Nat.le_refl _) _).trans (hb2.mono (by simp))) hgl) ?_
      (repeat' (first | (with_reducible rfl) | omega | (with_reducible refine (heap_setCell_other _ _ _ _ ?_).trans ?_) | (with_reducible refine (Below.heap_alloc _ _ _ ?_).trans ?_) | (with_reducible refine (drew_heap _ _).trans ?_) | (simp; omega)))
    · refine Els.same (Els.below HE1.out (B := w1.heap.size) (w' := w2) (((Below.refl _ _).alloc (Nat.le_refl _) _).trans (hb2.mono (by simp))) hgl) ?_
      (repeat' (first | (with_reducible rfl) | omega | (with_reducible refine (heap_setCell_other _ _ _ _ ?_).trans ?_) | (with_reducible refine (Below.heap_alloc _ _ _ ?_).trans ?_) | (with_reducible refine (drew_heap _ _).trans ?_) | (simp; omega)))
    · (repeat' (first | (with_reducible assumption) | (with_reducible exact Below.refl _ _) | (with_reducible refine below_drewN ?_ _) | (with_reducible refine Below.drew ?_) | (with_reducible refine Below.alloc ?_ ?_ _) | (with_reducible refine Below.setCell ?_ ?_ _) | (with_reducible refine Below.trans ?_ (Below.mono (by assumption) ?_)) | (with_reducible exact Nat.le_refl _) | (with_reducible assumption) | omega | (simp; omega) | (simp; done)))

set_option maxHeartbeats 2000000 in
theorem vpe_no1 (q a : Int) (v : Value) (l : List Int) (w : World) (hv : Sl w v l) (hl : l.length ≤ 1048576) (hg : (isSz q && good q l) = false) (ha : inE q a = true) :
    Calls Try.prog 22 #[.int .i64 q, v, .int .i64 a] w fun e w' => e = .returned (.tuple #[polyZ, elZ, .bool false]) ∧ Below w.heap.size w w' := by
  have HP := Lib.hid (fun w' (hb : Below w.heap.size w w') => validPoly_no q v l w' (hv.below hb (Nat.le_refl _)) hl hg)
  have HE := Lib.hid (fun w => elementOf_yes q a w ha)
  clear hv hl hg ha
  go_enter Try.func22, Try.ntmps22
  go_wp2_with fail
  refine (HP.out _ (by (repeat' (first | (with_reducible assumption) | (with_reducible exact Below.refl _ _) | (with_reducible refine below_drewN ?_ _) | (with_reducible refine Below.drew ?_) | (with_reducible refine Below.alloc ?_ ?_ _) | (with_reducible refine Below.setCell ?_ ?_ _) | (with_reducible refine Below.trans ?_ (Below.mono (by assumption) ?_)) | (with_reducible exact Nat.le_refl _) | (with_reducible assumption) | omega | (simp; omega) | (simp; done))))).mono ?_
  rintro e w1 ⟨rfl, hb1⟩
  obtain ⟨hc1, hf1⟩ := bcell hb1; have hz1 := hb1.size; (try simp at hz1); have HB1 := Lib.hid hb1; clear hb1
  have l1 : w.heap.size < w1.heap.size := by omega
  have l1' : w.heap.size + 1 < w1.heap.size := by omega
  go_wp2_with fail
  refine (HE.out _).mono ?_
  rintro e w2 ⟨rfl, hb2⟩
  obtain ⟨hc2, hf2⟩ := bcell hb2; have hz2 := hb2.size; (try simp at hz2); have HB2 := Lib.hid hb2; clear hb2
  have l2 : w.heap.size < w2.heap.size := by omega
  have l2' : w.heap.size + 1 < w2.heap.size := by omega
  have l3 : w1.heap.size < w2.heap.size := by omega
  go_wp2_with fail
  have hb1 := HB1.out
  have hb2 := HB2.out
  have hbw : Below (w.heap.size + 2) ((w.alloc pzblk).alloc zblk) w2 := by (repeat' (first | (with_reducible assumption) | (with_reducible exact Below.refl _ _) | (with_reducible refine below_drewN ?_ _) | (with_reducible refine Below.drew ?_) | (with_reducible refine Below.alloc ?_ ?_ _) | (with_reducible refine Below.setCell ?_ ?_ _) | (with_reducible refine Below.trans ?_ (Below.mono (by assumption) ?_)) | (with_reducible exact Nat.le_refl _) | (with_reducible assumption) | omega | (simp; omega) | (simp; done)))
  have q0 : w2.heap[w.heap.size]? = some pzblk := (hbw.block _ (by omega)).trans ((Below.heap_alloc _ _ _ (by simp)).trans (heap_alloc_new w _))
  have q1 : w2.heap[w.heap.size + 1]? = some zblk := (hbw.block _ (by omega)).trans (by have := heap_alloc_new (w.alloc pzblk) zblk; simpa using this)
  obtain ⟨s0, s1, s2, s3, sf, sl⟩ := cells4 q0
  obtain ⟨t0, t1, t2, t3, t4, t5, t6, tf, tl⟩ := seven q1
  clear q0 q1
  refine bodyPost_ret (v := .tuple #[polyZ, elZ, .bool false]) (by simp [results, Try.results22, go_sem, s0, s1, s2, s3, t0, t1, t2, t3, t4, t5, t6, l2, l2']) rfl ⟨rfl, ?_⟩
  (repeat' (first | (with_reducible assumption) | (with_reducible exact Below.refl _ _) | (with_reducible refine below_drewN ?_ _) | (with_reducible refine Below.drew ?_) | (with_reducible refine Below.alloc ?_ ?_ _) | (with_reducible refine Below.setCell ?_ ?_ _) | (with_reducible refine Below.trans ?_ (Below.mono (by assumption) ?_)) | (with_reducible exact Nat.le_refl _) | (with_reducible assumption) | omega | (simp; omega) | (simp; done)))

set_option maxHeartbeats 2000000 in
theorem vpe_no2 (q a : Int) (v : Value) (l : List Int) (w : World) (hv : Sl w v l) (hl : l.length ≤ 1048576) (hg : (isSz q && good q l) = false) (ha : inE q a = false) :
    Calls Try.prog 22 #[.int .i64 q, v, .int .i64 a] w fun e w' => e = .returned (.tuple #[polyZ, elZ, .bool false]) ∧ Below w.heap.size w w' := by
  have HP := Lib.hid (fun w' (hb : Below w.heap.size w w') => validPoly_no q v l w' (hv.below hb (Nat.le_refl _)) hl hg)
  have HE := Lib.hid (fun w => elementOf_no q a w ha)
  clear hv hl hg ha
  go_enter Try.func22, Try.ntmps22
  go_wp2_with fail
  refine (HP.out _ (by (repeat' (first | (with_reducible assumption) | (with_reducible exact Below.refl _ _) | (with_reducible refine below_drewN ?_ _) | (with_reducible refine Below.drew ?_) | (with_reducible refine Below.alloc ?_ ?_ _) | (with_reducible refine Below.setCell ?_ ?_ _) | (with_reducible refine Below.trans ?_ (Below.mono (by assumption) ?_)) | (with_reducible exact Nat.le_refl _) | (with_reducible assumption) | omega | (simp; omega) | (simp; done))))).mono ?_
  rintro e w1 ⟨rfl, hb1⟩
  obtain ⟨hc1, hf1⟩ := bcell hb1; have hz1 := hb1.size; (try simp at hz1); have HB1 := Lib.hid hb1; clear hb1
  have l1 : w.heap.size < w1.heap.size := by omega
  have l1' : w.heap.size + 1 < w1.heap.size := by omega
  go_wp2_with fail
  refine (HE.out _).mono ?_
  rintro e w2 ⟨rfl, hb2⟩
  obtain ⟨hc2, hf2⟩ := bcell hb2; have hz2 := hb2.size; (try simp at hz2); have HB2 := Lib.hid hb2; clear hb2
  have l2 : w.heap.size < w2.heap.size := by omega
  have l2' : w.heap.size + 1 < w2.heap.size := by omega
  have l3 : w1.heap.size < w2.heap.size := by omega
  go_wp2_with fail
  have hb1 := HB1.out
  have hb2 := HB2.out
  have hbw : Below (w.heap.size + 2) ((w.alloc pzblk).alloc zblk) w2 := by (repeat' (first | (with_reducible assumption) | (with_reducible exact Below.refl _ _) | (with_reducible refine below_drewN ?_ _) | (with_reducible refine Below.drew ?_) | (with_reducible refine Below.alloc ?_ ?_ _) | (with_reducible refine Below.setCell ?_ ?_ _) | (with_reducible refine Below.trans ?_ (Below.mono (by assumption) ?_)) | (with_reducible exact Nat.le_refl _) | (with_reducible assumption) | omega | (simp; omega) | (simp; done)))
  have q0 : w2.heap[w.heap.size]? = some pzblk := (hbw.block _ (by omega)).trans ((Below.heap_alloc _ _ _ (by simp)).trans (heap_alloc_new w _))
  have q1 : w2.heap[w.heap.size + 1]? = some zblk := (hbw.block _ (by omega)).trans (by have := heap_alloc_new (w.alloc pzblk) zblk; simpa using this)
  obtain ⟨s0, s1, s2, s3, sf, sl⟩ := cells4 q0
  obtain ⟨t0, t1, t2, t3, t4, t5, t6, tf, tl⟩ := seven q1
  clear q0 q1
  refine bodyPost_ret (v := .tuple #[polyZ, elZ, .bool false]) (by simp [results, Try.results22, go_sem, s0, s1, s2, s3, t0, t1, t2, t3, t4, t5, t6, l2, l2']) rfl ⟨rfl, ?_⟩
  (repeat' (first | (with_reducible assumption) | (with_reducible exact Below.refl _ _) | (with_reducible refine below_drewN ?_ _) | (with_reducible refine Below.drew ?_) | (with_reducible refine Below.alloc ?_ ?_ _) | (with_reducible refine Below.setCell ?_ ?_ _) | (with_reducible refine Below.trans ?_ (Below.mono (by assumption) ?_)) | (with_reducible exact Nat.le_refl _) | (with_reducible assumption) | omega | (simp; omega) | (simp; done)))

set_option maxHeartbeats 2000000 in
theorem vpe_no3 (q a : Int) (v : Value) (l : List Int) (w : World) (hv : Sl w v l) (_hl : l.length ≤ 1048576) (h : isSz q = true) (hg : good q l = true) (ha : inE q a = false) :
    Calls Try.prog 22 #[.int .i64 q, v, .int .i64 a] w fun e w' => e = .returned (.tuple #[polyZ, elZ, .bool false]) ∧ Below w.heap.size w w' := by
  have HP := Lib.hid (fun w' (hb : Below w.heap.size w w') => validPoly_yes q v l w' h (hv.below hb (Nat.le_refl _)) hg)
  have HE := Lib.hid (fun w => elementOf_no q a w ha)
  clear hv hg ha h
  generalize (fun i => l.getD i 0) = f at *
  generalize l.length = n at *
  go_enter Try.func22, Try.ntmps22
  go_wp2_with fail
  refine (HP.out _ (by (repeat' (first | (with_reducible assumption) | (with_reducible exact Below.refl _ _) | (with_reducible refine below_drewN ?_ _) | (with_reducible refine Below.drew ?_) | (with_reducible refine Below.alloc ?_ ?_ _) | (with_reducible refine Below.setCell ?_ ?_ _) | (with_reducible refine Below.trans ?_ (Below.mono (by assumption) ?_)) | (with_reducible exact Nat.le_refl _) | (with_reducible assumption) | omega | (simp; omega) | (simp; done))))).mono ?_
  rintro e w1 ⟨g, rfl, _, _, _, hb1⟩
  obtain ⟨hc1, hf1⟩ := bcell hb1; have hz1 := hb1.size; (try simp at hz1); have HB1 := Lib.hid hb1; clear hb1
  have l1 : w.heap.size < w1.heap.size := by omega
  have l1' : w.heap.size + 1 < w1.heap.size := by omega
  go_wp2_with fail
  refine (HE.out _).mono ?_
  rintro e w2 ⟨rfl, hb2⟩
  obtain ⟨hc2, hf2⟩ := bcell hb2; have hz2 := hb2.size; (try simp at hz2); have HB2 := Lib.hid hb2; clear hb2
  have l2 : w.heap.size < w2.heap.size := by omega
  have l2' : w.heap.size + 1 < w2.heap.size := by omega
  have l3 : w1.heap.size < w2.heap.size := by omega
  go_wp2_with fail
  have hb1 := HB1.out
  have hb2 := HB2.out
  have hbw : Below (w.heap.size + 2) ((w.alloc pzblk).alloc zblk) w2 := by (repeat' (first | (with_reducible assumption) | (with_reducible exact Below.refl _ _) | (with_reducible refine below_drewN ?_ _) | (with_reducible refine Below.drew ?_) | (with_reducible refine Below.alloc ?_ ?_ _) | (with_reducible refine Below.setCell ?_ ?_ _) | (with_reducible refine Below.trans ?_ (Below.mono (by assumption) ?_)) | (with_reducible exact Nat.le_refl _) | (with_reducible assumption) | omega | (simp; omega) | (simp; done)))
  have q0 : w2.heap[w.heap.size]? = some pzblk := (hbw.block _ (by omega)).trans ((Below.heap_alloc _ _ _ (by simp)).trans (heap_alloc_new w _))
  have q1 : w2.heap[w.heap.size + 1]? = some zblk := (hbw.block _ (by omega)).trans (by have := heap_alloc_new (w.alloc pzblk) zblk; simpa using this)
  obtain ⟨s0, s1, s2, s3, sf, sl⟩ := cells4 q0
  obtain ⟨t0, t1, t2, t3, t4, t5, t6, tf, tl⟩ := seven q1
  clear q0 q1
  refine bodyPost_ret (v := .tuple #[polyZ, elZ, .bool false]) (by simp [results, Try.results22, go_sem, s0, s1, s2, s3, t0, t1, t2, t3, t4, t5, t6, l2, l2']) rfl ⟨rfl, ?_⟩
  (repeat' (first | (with_reducible assumption) | (with_reducible exact Below.refl _ _) | (with_reducible refine below_drewN ?_ _) | (with_reducible refine Below.drew ?_) | (with_reducible refine Below.alloc ?_ ?_ _) | (with_reducible refine Below.setCell ?_ ?_ _) | (with_reducible refine Below.trans ?_ (Below.mono (by assumption) ?_)) | (with_reducible exact Nat.le_refl _) | (with_reducible assumption) | omega | (simp; omega) | (simp; done)))
theorem vpe_no (q a : Int) (v : Value) (l : List Int) (w : World) (hv : Sl w v l) (hl : l.length ≤ 1048576) (hn : ((isSz q && good q l) && inE q a) = false) :
    Calls Try.prog 22 #[.int .i64 q, v, .int .i64 a] w fun e w' => e = .returned (.tuple #[polyZ, elZ, .bool false]) ∧ Below w.heap.size w w' := by
  cases hg : isSz q && good q l with
  | false =>
    cases ha : inE q a with
    | true => exact vpe_no1 q a v l w hv hl hg ha
    | false => exact vpe_no2 q a v l w hv hl hg ha
  | true =>
    rw [hg] at hn
    simp only [Bool.and_eq_true] at hg
    exact vpe_no3 q a v l w hv hl hg.1 hg.2 hn
end Go.Proofs.Ythklnfanbegecac
