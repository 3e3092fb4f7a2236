/- impl.validPolys by a contract. -/
import Derived.Test.YthklnfanbegecacHN
namespace Go.Proofs.Ythklnfanbegecac
open Go.RowKit
set_option maxHeartbeats 2000000 in
/-- impl.validPolys. -/
theorem validPolys_yes (q : Int) (v1 v2 : Value) (l1 l2 : List Int) (w : World) (h : isSz q = true) (hv1 : Sl w v1 l1) (hv2 : Sl w v2 l2) (hg1 : good q l1 = true) (hg2 : good q l2 = true) :
    Calls Try.prog 18 #[.int .i64 q, v1, v2] w fun e w' => ∃ g1 g2, e = .returned (.tuple #[polyE q (.slice (some ⟨g1, 0, none⟩) l1.length l1.length), polyE q (.slice (some ⟨g2, 0, none⟩) l2.length l2.length), .bool true]) ∧ g1 < w'.heap.size ∧ g2 < w'.heap.size ∧ Els w' g1 q (fun i => l1.getD i 0) l1.length ∧ Els w' g2 q (fun i => l2.getD i 0) l2.length ∧ Below w.heap.size w w' := by
  have HP1 := Lib.hid (fun w' (hb : Below w.heap.size w w') => validPoly_yes q v1 l1 w' h (hv1.below hb (Nat.le_refl _)) hg1)
  have HP2 := Lib.hid (fun w' (hb : Below w.heap.size w w') => validPoly_yes q v2 l2 w' h (hv2.below hb (Nat.le_refl _)) hg2)
  clear h hv1 hv2 hg1 hg2
  generalize (fun i => l1.getD i 0) = f1 at *
  generalize (fun i => l2.getD i 0) = f2 at *
  generalize l1.length = n1 at *
  generalize l2.length = n2 at *
  go_enter Try.func18, Try.ntmps18
  go_wp2_with fail
  refine (HP1.out _ (by (repeat' (first | (with_reducible assumption) | (with_reducible exact Below.refl _ _) | (with_reducible refine below_drewN ?_ _) | (with_reducible refine Below.drew ?_) | (with_reducible refine Below.alloc ?_ ?_ _) | (with_reducible refine Below.setCell ?_ ?_ _) | (with_reducible refine Below.trans ?_ (Below.mono (by assumption) ?_)) | (with_reducible exact Nat.le_refl _) | (with_reducible assumption) | omega | (simp; omega) | (simp; done))))).mono ?_
  rintro e w1 ⟨g1, rfl, hgg1, hk1, he1, hb1⟩
  simp at hgg1
  have hgl1 := hk1.lt
  have HE1 := Lib.hid he1; clear he1 hk1
  obtain ⟨hc1, hf1⟩ := bcell hb1; have hz1 := hb1.size; (try simp at hz1); have HB1 := Lib.hid hb1; clear hb1
  have l1 : w.heap.size < w1.heap.size := by omega
  have l1' : w.heap.size + 1 < w1.heap.size := by omega
  go_wp2_with fail
  refine (HP2.out _ (by have hb1 := HB1.out; (repeat' (first | (with_reducible assumption) | (with_reducible exact Below.refl _ _) | (with_reducible refine below_drewN ?_ _) | (with_reducible refine Below.drew ?_) | (with_reducible refine Below.alloc ?_ ?_ _) | (with_reducible refine Below.setCell ?_ ?_ _) | (with_reducible refine Below.trans ?_ (Below.mono (by assumption) ?_)) | (with_reducible exact Nat.le_refl _) | (with_reducible assumption) | omega | (simp; omega) | (simp; done))))).mono ?_
  rintro e w2 ⟨g2, rfl, hgg2, hk2, he2, hb2⟩
  simp at hgg2
  have hgl2 := hk2.lt
  have HE2 := Lib.hid he2; clear he2 hk2
  obtain ⟨hc2, hf2⟩ := bcell hb2; have hz2 := hb2.size; (try simp at hz2); have HB2 := Lib.hid hb2; clear hb2
  have l2 : w.heap.size < w2.heap.size := by omega
  have l2' : w.heap.size + 1 < w2.heap.size := by omega
  have l3 : w1.heap.size < w2.heap.size := by omega
  go_wp2_with fail
  go_region
  all_goals
    go_wp2_with fail
    have hb1 := HB1.out
    have hb2 := HB2.out
    have hbw : Below (w.heap.size + 2) ((w.alloc pzblk).alloc pzblk) w2 := by (repeat' (first | (with_reducible assumption) | (with_reducible exact Below.refl _ _) | (with_reducible refine below_drewN ?_ _) | (with_reducible refine Below.drew ?_) | (with_reducible refine Below.alloc ?_ ?_ _) | (with_reducible refine Below.setCell ?_ ?_ _) | (with_reducible refine Below.trans ?_ (Below.mono (by assumption) ?_)) | (with_reducible exact Nat.le_refl _) | (with_reducible assumption) | omega | (simp; omega) | (simp; done)))
    obtain ⟨s0, s1, s2, s3, sf, sl⟩ := cells4 ((hbw.block _ (by omega)).trans (two w pzblk pzblk).1)
    obtain ⟨t0, t1, t2, t3, tf, tl⟩ := cells4 ((hbw.block _ (by omega)).trans (two w pzblk pzblk).2)
    have hbw12 : Below w1.heap.size w1 w2 := ((Below.refl _ _).alloc (Nat.le_refl _) _).trans (hb2.mono (by simp))
    refine bodyPost_ret (v := .tuple #[polyE q (.slice (some ⟨g1, 0, none⟩) n1 n1), polyE q (.slice (some ⟨g2, 0, none⟩) n2 n2), .bool true]) (by simp [results, Try.results18, go_sem, s0, s1, s2, s3, t0, t1, t2, t3, l2, l2']) rfl ⟨g1, g2, rfl, by simp; omega, by simp; omega, ?_, ?_, ?_⟩
    · refine Els.same (Els.below HE1.out hbw12 hgl1) ?_
      (repeat' (first | (with_reducible rfl) | omega | (with_reducible refine (heap_setCell_other _ _ _ _ ?_).trans ?_) | (with_reducible refine (Below.heap_alloc _ _ _ ?_).trans ?_) | (with_reducible refine (drew_heap _ _).trans ?_) | (simp; omega)))
    · refine Els.same HE2.out ?_
      (repeat' (first | (with_reducible rfl) | omega | (with_reducible refine (heap_setCell_other _ _ _ _ ?_).trans ?_) | (with_reducible refine (Below.heap_alloc _ _ _ ?_).trans ?_) | (with_reducible refine (drew_heap _ _).trans ?_) | (simp; omega)))
    · (repeat' (first | (with_reducible assumption) | (with_reducible exact Below.refl _ _) | (with_reducible refine below_drewN ?_ _) | (with_reducible refine Below.drew ?_) | (with_reducible refine Below.alloc ?_ ?_ _) | (with_reducible refine Below.setCell ?_ ?_ _) | (with_reducible refine Below.trans ?_ (Below.mono (by assumption) ?_)) | (with_reducible exact Nat.le_refl _) | (with_reducible assumption) | omega | (simp; omega) | (simp; done)))
set_option maxHeartbeats 2000000 in
theorem validPolys_no1 (q : Int) (v1 v2 : Value) (l1 l2 : List Int) (w : World) (hv1 : Sl w v1 l1) (hv2 : Sl w v2 l2) (hn1 : (isSz q && good q l1) = false) (hl1 : l1.length ≤ 1048576) (h2 : isSz q = true) (hg2 : good q l2 = true) :
    Calls Try.prog 18 #[.int .i64 q, v1, v2] w fun e w' => e = .returned (.tuple #[polyZ, polyZ, .bool false]) ∧ Below w.heap.size w w' := by
  have HP1 := Lib.hid (fun w' (hb : Below w.heap.size w w') => validPoly_no q v1 l1 w' (hv1.below hb (Nat.le_refl _)) hl1 hn1)
  have HP2 := Lib.hid (fun w' (hb : Below w.heap.size w w') => validPoly_yes q v2 l2 w' h2 (hv2.below hb (Nat.le_refl _)) hg2)
  clear hv1 hv2 hn1 hl1 h2 hg2
  go_enter Try.func18, Try.ntmps18
  go_wp2_with fail
  refine (HP1.out _ (by (repeat' (first | (with_reducible assumption) | (with_reducible exact Below.refl _ _) | (with_reducible refine below_drewN ?_ _) | (with_reducible refine Below.drew ?_) | (with_reducible refine Below.alloc ?_ ?_ _) | (with_reducible refine Below.setCell ?_ ?_ _) | (with_reducible refine Below.trans ?_ (Below.mono (by assumption) ?_)) | (with_reducible exact Nat.le_refl _) | (with_reducible assumption) | omega | (simp; omega) | (simp; done))))).mono ?_
  rintro e w1 ⟨rfl, hb1⟩
  obtain ⟨hc1, hf1⟩ := bcell hb1; have hz1 := hb1.size; (try simp at hz1); have HB1 := Lib.hid hb1; clear hb1
  have l1 : w.heap.size < w1.heap.size := by omega
  have l1' : w.heap.size + 1 < w1.heap.size := by omega
  go_wp2_with fail
  refine (HP2.out _ (by have hb1 := HB1.out; (repeat' (first | (with_reducible assumption) | (with_reducible exact Below.refl _ _) | (with_reducible refine below_drewN ?_ _) | (with_reducible refine Below.drew ?_) | (with_reducible refine Below.alloc ?_ ?_ _) | (with_reducible refine Below.setCell ?_ ?_ _) | (with_reducible refine Below.trans ?_ (Below.mono (by assumption) ?_)) | (with_reducible exact Nat.le_refl _) | (with_reducible assumption) | omega | (simp; omega) | (simp; done))))).mono ?_
  rintro e w2 ⟨g2, rfl, hgg2, hk2, _, hb2⟩
  have hgl2 := hk2.lt
  clear hk2 hgg2
  obtain ⟨hc2, hf2⟩ := bcell hb2; have hz2 := hb2.size; (try simp at hz2); have HB2 := Lib.hid hb2; clear hb2
  have l2 : w.heap.size < w2.heap.size := by omega
  have l2' : w.heap.size + 1 < w2.heap.size := by omega
  have l3 : w1.heap.size < w2.heap.size := by omega
  go_wp2_with fail
  have hb1 := HB1.out
  have hb2 := HB2.out
  have hbw : Below (w.heap.size + 2) ((w.alloc pzblk).alloc pzblk) w2 := by (repeat' (first | (with_reducible assumption) | (with_reducible exact Below.refl _ _) | (with_reducible refine below_drewN ?_ _) | (with_reducible refine Below.drew ?_) | (with_reducible refine Below.alloc ?_ ?_ _) | (with_reducible refine Below.setCell ?_ ?_ _) | (with_reducible refine Below.trans ?_ (Below.mono (by assumption) ?_)) | (with_reducible exact Nat.le_refl _) | (with_reducible assumption) | omega | (simp; omega) | (simp; done)))
  obtain ⟨s0, s1, s2, s3, sf, sl⟩ := cells4 ((hbw.block _ (by omega)).trans (two w pzblk pzblk).1)
  obtain ⟨t0, t1, t2, t3, tf, tl⟩ := cells4 ((hbw.block _ (by omega)).trans (two w pzblk pzblk).2)
  refine bodyPost_ret (v := .tuple #[polyZ, polyZ, .bool false]) (by simp [results, Try.results18, go_sem, s0, s1, s2, s3, t0, t1, t2, t3, l2, l2']) rfl ⟨rfl, ?_⟩
  (repeat' (first | (with_reducible assumption) | (with_reducible exact Below.refl _ _) | (with_reducible refine below_drewN ?_ _) | (with_reducible refine Below.drew ?_) | (with_reducible refine Below.alloc ?_ ?_ _) | (with_reducible refine Below.setCell ?_ ?_ _) | (with_reducible refine Below.trans ?_ (Below.mono (by assumption) ?_)) | (with_reducible exact Nat.le_refl _) | (with_reducible assumption) | omega | (simp; omega) | (simp; done)))
set_option maxHeartbeats 2000000 in
theorem validPolys_no2 (q : Int) (v1 v2 : Value) (l1 l2 : List Int) (w : World) (hv1 : Sl w v1 l1) (hv2 : Sl w v2 l2) (hn1 : (isSz q && good q l1) = false) (hl1 : l1.length ≤ 1048576) (hn2 : (isSz q && good q l2) = false) (hl2 : l2.length ≤ 1048576) :
    Calls Try.prog 18 #[.int .i64 q, v1, v2] w fun e w' => e = .returned (.tuple #[polyZ, polyZ, .bool false]) ∧ Below w.heap.size w w' := by
  have HP1 := Lib.hid (fun w' (hb : Below w.heap.size w w') => validPoly_no q v1 l1 w' (hv1.below hb (Nat.le_refl _)) hl1 hn1)
  have HP2 := Lib.hid (fun w' (hb : Below w.heap.size w w') => validPoly_no q v2 l2 w' (hv2.below hb (Nat.le_refl _)) hl2 hn2)
  clear hv1 hv2 hn1 hl1 hn2 hl2
  go_enter Try.func18, Try.ntmps18
  go_wp2_with fail
  refine (HP1.out _ (by (repeat' (first | (with_reducible assumption) | (with_reducible exact Below.refl _ _) | (with_reducible refine below_drewN ?_ _) | (with_reducible refine Below.drew ?_) | (with_reducible refine Below.alloc ?_ ?_ _) | (with_reducible refine Below.setCell ?_ ?_ _) | (with_reducible refine Below.trans ?_ (Below.mono (by assumption) ?_)) | (with_reducible exact Nat.le_refl _) | (with_reducible assumption) | omega | (simp; omega) | (simp; done))))).mono ?_
  rintro e w1 ⟨rfl, hb1⟩
  obtain ⟨hc1, hf1⟩ := bcell hb1; have hz1 := hb1.size; (try simp at hz1); have HB1 := Lib.hid hb1; clear hb1
  have l1 : w.heap.size < w1.heap.size := by omega
  have l1' : w.heap.size + 1 < w1.heap.size := by omega
  go_wp2_with fail
  refine (HP2.out _ (by have hb1 := HB1.out; (repeat' (first | (with_reducible assumption) | (with_reducible exact Below.refl _ _) | (with_reducible refine below_drewN ?_ _) | (with_reducible refine Below.drew ?_) | (with_reducible refine Below.alloc ?_ ?_ _) | (with_reducible refine Below.setCell ?_ ?_ _) | (with_reducible refine Below.trans ?_ (Below.mono (by assumption) ?_)) | (with_reducible exact Nat.le_refl _) | (with_reducible assumption) | omega | (simp; omega) | (simp; done))))).mono ?_
  rintro e w2 ⟨rfl, hb2⟩
  obtain ⟨hc2, hf2⟩ := bcell hb2; have hz2 := hb2.size; (try simp at hz2); have HB2 := Lib.hid hb2; clear hb2
  have l2 : w.heap.size < w2.heap.size := by omega
  have l2' : w.heap.size + 1 < w2.heap.size := by omega
  have l3 : w1.heap.size < w2.heap.size := by omega
  go_wp2_with fail
  have hb1 := HB1.out
  have hb2 := HB2.out
  have hbw : Below (w.heap.size + 2) ((w.alloc pzblk).alloc pzblk) w2 := by (repeat' (first | (with_reducible assumption) | (with_reducible exact Below.refl _ _) | (with_reducible refine below_drewN ?_ _) | (with_reducible refine Below.drew ?_) | (with_reducible refine Below.alloc ?_ ?_ _) | (with_reducible refine Below.setCell ?_ ?_ _) | (with_reducible refine Below.trans ?_ (Below.mono (by assumption) ?_)) | (with_reducible exact Nat.le_refl _) | (with_reducible assumption) | omega | (simp; omega) | (simp; done)))
  obtain ⟨s0, s1, s2, s3, sf, sl⟩ := cells4 ((hbw.block _ (by omega)).trans (two w pzblk pzblk).1)
  obtain ⟨t0, t1, t2, t3, tf, tl⟩ := cells4 ((hbw.block _ (by omega)).trans (two w pzblk pzblk).2)
  refine bodyPost_ret (v := .tuple #[polyZ, polyZ, .bool false]) (by simp [results, Try.results18, go_sem, s0, s1, s2, s3, t0, t1, t2, t3, l2, l2']) rfl ⟨rfl, ?_⟩
  (repeat' (first | (with_reducible assumption) | (with_reducible exact Below.refl _ _) | (with_reducible refine below_drewN ?_ _) | (with_reducible refine Below.drew ?_) | (with_reducible refine Below.alloc ?_ ?_ _) | (with_reducible refine Below.setCell ?_ ?_ _) | (with_reducible refine Below.trans ?_ (Below.mono (by assumption) ?_)) | (with_reducible exact Nat.le_refl _) | (with_reducible assumption) | omega | (simp; omega) | (simp; done)))
set_option maxHeartbeats 2000000 in
theorem validPolys_no3 (q : Int) (v1 v2 : Value) (l1 l2 : List Int) (w : World) (hv1 : Sl w v1 l1) (hv2 : Sl w v2 l2) (h1 : isSz q = true) (hg1 : good q l1 = true) (hn2 : (isSz q && good q l2) = false) (hl2 : l2.length ≤ 1048576) :
    Calls Try.prog 18 #[.int .i64 q, v1, v2] w fun e w' => e = .returned (.tuple #[polyZ, polyZ, .bool false]) ∧ Below w.heap.size w w' := by
  have HP1 := Lib.hid (fun w' (hb : Below w.heap.size w w') => validPoly_yes q v1 l1 w' h1 (hv1.below hb (Nat.le_refl _)) hg1)
  have HP2 := Lib.hid (fun w' (hb : Below w.heap.size w w') => validPoly_no q v2 l2 w' (hv2.below hb (Nat.le_refl _)) hl2 hn2)
  clear hv1 hv2 h1 hg1 hn2 hl2
  go_enter Try.func18, Try.ntmps18
  go_wp2_with fail
  refine (HP1.out _ (by (repeat' (first | (with_reducible assumption) | (with_reducible exact Below.refl _ _) | (with_reducible refine below_drewN ?_ _) | (with_reducible refine Below.drew ?_) | (with_reducible refine Below.alloc ?_ ?_ _) | (with_reducible refine Below.setCell ?_ ?_ _) | (with_reducible refine Below.trans ?_ (Below.mono (by assumption) ?_)) | (with_reducible exact Nat.le_refl _) | (with_reducible assumption) | omega | (simp; omega) | (simp; done))))).mono ?_
  rintro e w1 ⟨g1, rfl, hgg1, hk1, _, hb1⟩
  have hgl1 := hk1.lt
  clear hk1 hgg1
  obtain ⟨hc1, hf1⟩ := bcell hb1; have hz1 := hb1.size; (try simp at hz1); have HB1 := Lib.hid hb1; clear hb1
  have l1 : w.heap.size < w1.heap.size := by omega
  have l1' : w.heap.size + 1 < w1.heap.size := by omega
  go_wp2_with fail
  refine (HP2.out _ (by have hb1 := HB1.out; (repeat' (first | (with_reducible assumption) | (with_reducible exact Below.refl _ _) | (with_reducible refine below_drewN ?_ _) | (with_reducible refine Below.drew ?_) | (with_reducible refine Below.alloc ?_ ?_ _) | (with_reducible refine Below.setCell ?_ ?_ _) | (with_reducible refine Below.trans ?_ (Below.mono (by assumption) ?_)) | (with_reducible exact Nat.le_refl _) | (with_reducible assumption) | omega | (simp; omega) | (simp; done))))).mono ?_
  rintro e w2 ⟨rfl, hb2⟩
  obtain ⟨hc2, hf2⟩ := bcell hb2; have hz2 := hb2.size; (try simp at hz2); have HB2 := Lib.hid hb2; clear hb2
  have l2 : w.heap.size < w2.heap.size := by omega
  have l2' : w.heap.size + 1 < w2.heap.size := by omega
  have l3 : w1.heap.size < w2.heap.size := by omega
  go_wp2_with fail
  have hb1 := HB1.out
  have hb2 := HB2.out
  have hbw : Below (w.heap.size + 2) ((w.alloc pzblk).alloc pzblk) w2 := by (repeat' (first | (with_reducible assumption) | (with_reducible exact Below.refl _ _) | (with_reducible refine below_drewN ?_ _) | (with_reducible refine Below.drew ?_) | (with_reducible refine Below.alloc ?_ ?_ _) | (with_reducible refine Below.setCell ?_ ?_ _) | (with_reducible refine Below.trans ?_ (Below.mono (by assumption) ?_)) | (with_reducible exact Nat.le_refl _) | (with_reducible assumption) | omega | (simp; omega) | (simp; done)))
  obtain ⟨s0, s1, s2, s3, sf, sl⟩ := cells4 ((hbw.block _ (by omega)).trans (two w pzblk pzblk).1)
  obtain ⟨t0, t1, t2, t3, tf, tl⟩ := cells4 ((hbw.block _ (by omega)).trans (two w pzblk pzblk).2)
  refine bodyPost_ret (v := .tuple #[polyZ, polyZ, .bool false]) (by simp [results, Try.results18, go_sem, s0, s1, s2, s3, t0, t1, t2, t3, l2, l2']) rfl ⟨rfl, ?_⟩
  (repeat' (first | (with_reducible assumption) | (with_reducible exact Below.refl _ _) | (with_reducible refine below_drewN ?_ _) | (with_reducible refine Below.drew ?_) | (with_reducible refine Below.alloc ?_ ?_ _) | (with_reducible refine Below.setCell ?_ ?_ _) | (with_reducible refine Below.trans ?_ (Below.mono (by assumption) ?_)) | (with_reducible exact Nat.le_refl _) | (with_reducible assumption) | omega | (simp; omega) | (simp; done)))
theorem validPolys_no (q : Int) (v1 v2 : Value) (l1 l2 : List Int) (w : World) (hv1 : Sl w v1 l1) (hv2 : Sl w v2 l2) (hl1 : l1.length ≤ 1048576) (hl2 : l2.length ≤ 1048576) (hn : ((isSz q && good q l1) && (isSz q && good q l2)) = false) :
    Calls Try.prog 18 #[.int .i64 q, v1, v2] w fun e w' => e = .returned (.tuple #[polyZ, polyZ, .bool false]) ∧ Below w.heap.size w w' := by
  cases h1 : isSz q && good q l1 with
  | false =>
    cases h2 : isSz q && good q l2 with
    | false => exact validPolys_no2 q v1 v2 l1 l2 w hv1 hv2 h1 hl1 h2 hl2
    | true =>
      simp only [Bool.and_eq_true] at h2
      exact validPolys_no1 q v1 v2 l1 l2 w hv1 hv2 h1 hl1 h2.1 h2.2
  | true =>
    rw [h1] at hn
    simp only [Bool.and_eq_true] at h1
    exact validPolys_no3 q v1 v2 l1 l2 w hv1 hv2 h1.1 h1.2 hn hl2
end Go.Proofs.Ythklnfanbegecac
