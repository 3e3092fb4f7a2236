/- A bundle of texts: HJ HK HN IB. -/
import Derived.Test.YtapglncgicfjnaaKH
import Derived.Test.YtapglncgicfjnaaKI
namespace Go.Proofs.Ytapglncgicfjnaa
open Go.RowKit
/-- The block of a list that a closure holds. -/
abbrev lblk (T : TypeId) (v : Value) : Obj := .cells #[v] T
theorem at_box {w : World} {b : Nat} {v : Value} {T : TypeId} (h : w.heap[b]? = some (.cells #[v] T (0, 0))) : w.cell? ⟨b, 0, none⟩ = some v := by
  rw [cell_of_row w b 0 _ T (0, 0) h]; rfl

set_option maxHeartbeats 1000000 in
/-- The closure of impl.mapped over numbers, at impl.field.element. -/
theorem cloIE (q x : Int) (i n b off cap A0 A1 : Nat) (w : World) (h : isSz q = true) (x0 : 0 ≤ x) (x1 : x < q) (hin : i < n)
    (c0 : w.cell? ⟨A0, 0, none⟩ = some (.func (.func 116) #[fdE q] #[])) (c1 : w.cell? ⟨A1, 0, none⟩ = some (.slice (some ⟨b, off, none⟩) n cap)) (c2 : w.cell? ⟨b, off + i, none⟩ = some (.int .i64 x)) :
    Calls Try.prog 144 #[.int .i64 i, .pointer (some ⟨A0, 0, none⟩), .pointer (some ⟨A1, 0, none⟩)] w fun e w' => e = .returned (elE q x) ∧ Below w.heap.size w w' := by
  have HE := Lib.hid (fun w => elementE q x w h x0 x1)
  have l0 := World.block_lt_of_cell? w _ c0
  have l1 := World.block_lt_of_cell? w _ c1
  have l2 := World.block_lt_of_cell? w _ c2
  simp only at l0 l1 l2
  clear h x0 x1
  go_enter Try.func144, Try.ntmps144
  go_wp2_with fail
  go_region_with (go_at_call 116; refine (HE.out _).mono ?_; rintro e w1 ⟨rfl, hb1⟩; obtain ⟨hc1, hf1⟩ := bcell hb1; (try simp only [World.size_drew] at hc1 hf1); have hz1 := hb1.size; (try simp at hz1); have HB1 := Lib.hid hb1; clear hb1; have l3 : w.heap.size < w1.heap.size := (by omega))
  all_goals
    go_wp2_with fail
    have hb1 := HB1.out
    have q0 : w1.heap[w.heap.size]? = some zeroblk := (hb1.block _ (by simp)).trans (heap_alloc_new w _)
    obtain ⟨s0, s1, s2, s3, s4, s5, s6, sf, sl⟩ := seven q0
    clear q0
    refine bodyPost_ret (v := elE q x) (by simp [results, Try.results144, go_sem, s0, s1, s2, s3, s4, s5, s6]) rfl ⟨rfl, ?_⟩
    (repeat' (first | (with_reducible assumption) | (with_reducible exact Below.refl _ _) | (with_reducible refine below_drewN ?_ _) | (with_reducible refine Below.drew ?_) | (with_reducible refine Below.alloc ?_ ?_ _) | (with_reducible refine Below.setCell ?_ ?_ _) | (with_reducible refine Below.trans ?_ (Below.mono (by assumption) ?_)) | (with_reducible exact Nat.le_refl _) | (with_reducible assumption) | omega | (simp; omega) | (simp; done)))
set_option maxHeartbeats 1000000 in
/-- impl.mapped over numbers, at impl.field.element. -/
theorem mappedIE (q : Int) (v : Value) (l : List Int) (w : World) (h : isSz q = true) (hv : Sl w v l) (ha : l.all (inF q) = true) (hl : l.length ≤ 1000) :
    Calls Try.prog 115 #[v, .func (.func 116) #[fdE q] #[]] w fun e w' => ∃ g, e = .returned (.slice (some ⟨g, 0, none⟩) l.length l.length) ∧ w.heap.size ≤ g ∧ Blk w' g l.length ∧ Els w' g q (fun i => l.getD i 0) l.length ∧ Below w.heap.size w w' := by
  have HX : Hid (∀ (T1 T2 : TypeId) (i : Nat) w', i < l.length → Below ((w.alloc (lblk T1 v)).alloc (lblk T2 (.func (.func 116) #[fdE q] #[]))).heap.size ((w.alloc (lblk T1 v)).alloc (lblk T2 (.func (.func 116) #[fdE q] #[]))) w' →
      Calls Try.prog 144 #[.int .i64 i, .pointer (some ⟨w.heap.size + 1, 0, none⟩), .pointer (some ⟨w.heap.size, 0, none⟩)] w' fun e w'' => e = .returned (elE q (l.getD i 0)) ∧ Below w'.heap.size w' w'') := Lib.hid fun T1 T2 i w' hi hb => by
    obtain ⟨b, off, cap, rfl, hbl, hc⟩ := hv.open rfl (by omega)
    have hx := List.all_eq_true.1 ha (l.getD i 0) (by rw [show l.getD i 0 = l[i] by simp [List.getD, hi]]; exact List.getElem_mem hi)
    simp only [inF, Bool.and_eq_true, decide_eq_true_eq] at hx
    refine cloIE q _ i l.length b off cap _ _ w' h hx.1 hx.2 hi (at_box (T := T2) ?_) (at_box (T := T1) ?_) ?_
    · rw [hb.block _ (by simp)]
      have := heap_alloc_new (w.alloc (lblk T1 (.slice (some ⟨b, off, none⟩) l.length cap))) (lblk T2 (.func (.func 116) #[fdE q] #[]))
      simpa using this
    · rw [hb.block _ (by simp; omega), Below.heap_alloc _ _ _ (by simp)]
      exact heap_alloc_new w _
    · rw [hb.cell (p := ⟨b, off + i, none⟩) (by simp; omega), World.cell?_alloc_past _ _ _ (by simp; omega), World.cell?_alloc_past _ _ _ hbl]
      exact hc i hi
  obtain ⟨a, cap, rfl⟩ := hv.form
  clear hv ha h
  generalize hf : (fun i => l.getD i 0) = f at *
  have HX' : Hid (∀ (T1 T2 : TypeId) (i : Nat) w', i < l.length → Below ((w.alloc (lblk T1 (.slice a l.length cap))).alloc (lblk T2 (.func (.func 116) #[fdE q] #[]))).heap.size ((w.alloc (lblk T1 (.slice a l.length cap))).alloc (lblk T2 (.func (.func 116) #[fdE q] #[]))) w' →
      Calls Try.prog 144 #[.int .i64 i, .pointer (some ⟨w.heap.size + 1, 0, none⟩), .pointer (some ⟨w.heap.size, 0, none⟩)] w' fun e w'' => e = .returned (elE q (f i)) ∧ Below w'.heap.size w' w'') := by
    subst hf
    exact HX
  clear HX hf
  generalize l.length = n at *
  go_enter Try.func115, Try.ntmps115
  go_wp2_with fail
  refine (listOf_IE q n f (w.heap.size + 1) w.heap.size _ hl (HX'.out _ _)).mono ?_
  rintro e w1 ⟨rfl, hk1, he1, hb1⟩
  have HK := Lib.hid hk1; clear hk1
  have HE := Lib.hid he1; clear he1
  have HB1 := Lib.hid hb1; clear hb1
  go_wp2
  go_ret
  have hb1 := HB1.out
  exact ⟨_, rfl, by omega, by simpa using HK.out, by simpa using HE.out, by (repeat' (first | (with_reducible assumption) | (with_reducible exact Below.refl _ _) | (with_reducible refine below_drewN ?_ _) | (with_reducible refine Below.drew ?_) | (with_reducible refine Below.alloc ?_ ?_ _) | (with_reducible refine Below.setCell ?_ ?_ _) | (with_reducible refine Below.trans ?_ (Below.mono (by assumption) ?_)) | (with_reducible exact Nat.le_refl _) | (with_reducible assumption) | omega | (simp; omega) | (simp; done)))⟩

/-- A polynomial: its field, its coefficients. -/
abbrev polyE (q : Int) (v : Value) : Value := .agg #[.int .i64 q, .int .i64 (pr q), .int .i64 (pl q), v]
/-- That of a call that fails. -/
abbrev polyZ : Value := .agg #[.int .i64 0, .int .i64 0, .int .i64 0, .slice none 0 0]
abbrev pblk (q : Int) (v : Value) : Obj := .cells #[.int .i64 q, .int .i64 (pr q), .int .i64 (pl q), v] 66
abbrev pzblk : Obj := .cells #[.int .i64 0, .int .i64 0, .int .i64 0, .slice none 0 0] 66
theorem cells4 {w : World} {b : Nat} {x0 x1 x2 x3 : Value} (h : w.heap[b]? = some (.cells #[x0, x1, x2, x3] 66 (0, 0))) :
    w.cell? ⟨b, 0, none⟩ = some x0 ∧ w.cell? ⟨b, 1, none⟩ = some x1 ∧ w.cell? ⟨b, 2, none⟩ = some x2 ∧ w.cell? ⟨b, 3, none⟩ = some x3 ∧ (∀ o, w.frozen? ⟨b, o, none⟩ = false) ∧ b < w.heap.size := by
  refine ⟨?_, ?_, ?_, ?_, fun o => frozen_of_row w b o _ _ h, (Array.getElem?_eq_some_iff.1 h).1⟩ <;> rw [cell_of_row w b _ _ _ (0, 0) h] <;> rfl
theorem good_parts {q : Int} {l : List Int} (h : good q l = true) : (l.length : Int) ≤ q ∧ l.all (inF q) = true := by
  simp only [good, Bool.and_eq_true, decide_eq_true_eq] at h
  exact ⟨h.1, h.2.1⟩

/-- Four stores: a polynomial into its block. -/
abbrev put4 (w : World) (b : Nat) (q : Int) (v : Value) : World := (((w.setCell ⟨b, 0, none⟩ (.int .i64 q)).setCell ⟨b, 1, none⟩ (.int .i64 (pr q))).setCell ⟨b, 2, none⟩ (.int .i64 (pl q))).setCell ⟨b, 3, none⟩ v
theorem put4_other (w : World) (b : Nat) (q : Int) (v : Value) (k : Nat) (h : k ≠ b) : (put4 w b q v).heap[k]? = w.heap[k]? := by
  unfold put4
  iterate 4 rw [heap_setCell_other _ _ _ _ h]
theorem put4_below {B : Nat} {w0 w : World} (hb : Below B w0 w) (b : Nat) (h : B ≤ b) (q : Int) (v : Value) : Below B w0 (put4 w b q v) := by
  unfold put4
  exact (((hb.setCell h _).setCell h _).setCell h _).setCell h _

set_option maxHeartbeats 2000000 in
/-- impl.validPoly. -/
theorem validPoly_yes (q : Int) (v : Value) (l : List Int) (w : World) (h : isSz q = true) (hv : Sl w v l) (hg : good q l = true) :
    Calls Try.prog 64 #[.int .i64 q, v] w fun e w' => ∃ g, e = .returned (.tuple #[polyE q (.slice (some ⟨g, 0, none⟩) l.length l.length), .bool true]) ∧ w.heap.size ≤ g ∧ Blk w' g l.length ∧ Els w' g q (fun i => l.getD i 0) l.length ∧ Below w.heap.size w w' := by
  have hq := isSz_le q h
  obtain ⟨hlen, hall⟩ := good_parts hg
  have HF := Lib.hid (fun w => fieldOf_yes q w h)
  have HP := Lib.hid (fun w' (hb : Below w.heap.size w w') => by have := isPoly_any q v l w' (hv.below hb (Nat.le_refl _)) (by omega) (by omega); rw [hg] at this; exact this)
  have HM := Lib.hid (fun w' (hb : Below w.heap.size w w') => mappedIE q v l w' h (hv.below hb (Nat.le_refl _)) hall (by omega))
  obtain ⟨a, cap, rfl⟩ := hv.form
  clear h hv hg hall
  generalize (fun i => l.getD i 0) = f at *
  generalize l.length = n at *
  go_enter Try.func64, Try.ntmps64
  go_wp2_with fail
  refine (HF.out _).mono ?_
  rintro e w1 ⟨rfl, hb1⟩
  obtain ⟨hc1, hf1⟩ := bcell hb1; have hz1 := hb1.size; (try simp at hz1); have HB1 := Lib.hid hb1; clear hb1
  have l1 : w.heap.size < w1.heap.size := by omega
  go_wp2_with fail
  refine (HP.out _ (by have hb1 := HB1.out; (repeat' (first | (with_reducible assumption) | (with_reducible exact Below.refl _ _) | (with_reducible refine below_drewN ?_ _) | (with_reducible refine Below.drew ?_) | (with_reducible refine Below.alloc ?_ ?_ _) | (with_reducible refine Below.setCell ?_ ?_ _) | (with_reducible refine Below.trans ?_ (Below.mono (by assumption) ?_)) | (with_reducible exact Nat.le_refl _) | (with_reducible assumption) | omega | (simp; omega) | (simp; done))))).mono ?_
  rintro e w2 ⟨rfl, hb2⟩
  obtain ⟨hc2, hf2⟩ := bcell hb2; have hz2 := hb2.size; (try simp at hz2); have HB2 := Lib.hid hb2; clear hb2
  have l2 : w.heap.size < w2.heap.size := by omega
  have l3 : w1.heap.size < w2.heap.size := by omega
  have hb12 : Below w.heap.size w w2 := by have hb1 := HB1.out; have hb2 := HB2.out; (repeat' (first | (with_reducible assumption) | (with_reducible exact Below.refl _ _) | (with_reducible refine below_drewN ?_ _) | (with_reducible refine Below.drew ?_) | (with_reducible refine Below.alloc ?_ ?_ _) | (with_reducible refine Below.setCell ?_ ?_ _) | (with_reducible refine Below.trans ?_ (Below.mono (by assumption) ?_)) | (with_reducible exact Nat.le_refl _) | (with_reducible assumption) | omega | (simp; omega) | (simp; done)))
  go_wp2_with fail
  go_region_with (go_at_call 115; refine (HM.out _ (by (repeat' (first | (with_reducible assumption) | (with_reducible exact Below.refl _ _) | (with_reducible refine below_drewN ?_ _) | (with_reducible refine Below.drew ?_) | (with_reducible refine Below.alloc ?_ ?_ _) | (with_reducible refine Below.setCell ?_ ?_ _) | (with_reducible refine Below.trans ?_ (Below.mono (by assumption) ?_)) | (with_reducible exact Nat.le_refl _) | (with_reducible assumption) | omega | (simp; omega) | (simp; done))))).mono ?_; rintro e w3 ⟨g, rfl, hg, hk3, he3, hb3⟩; have HK3 := Lib.hid hk3; have HE3 := Lib.hid he3; clear hk3 he3; (try simp at hg); obtain ⟨hc3, hf3⟩ := bcell hb3; (try simp only [World.size_drew] at hc3 hf3); have hz3 := hb3.size; (try simp at hz3); have HB3 := Lib.hid hb3; clear hb3; have l4 : w.heap.size < w3.heap.size := (by omega); have l5 : w1.heap.size < w3.heap.size := (by omega))
  all_goals
    go_wp2_with fail
    have hb1 := HB1.out
    have hb2 := HB2.out
    have hb3 := HB3.out
    have q0 : w3.heap[w.heap.size]? = some pzblk := (Below.block (B := w.heap.size + 1) (show Below (w.heap.size + 1) (w.alloc pzblk) w3 by (repeat' (first | (with_reducible assumption) | (with_reducible exact Below.refl _ _) | (with_reducible refine below_drewN ?_ _) | (with_reducible refine Below.drew ?_) | (with_reducible refine Below.alloc ?_ ?_ _) | (with_reducible refine Below.setCell ?_ ?_ _) | (with_reducible refine Below.trans ?_ (Below.mono (by assumption) ?_)) | (with_reducible exact Nat.le_refl _) | (with_reducible assumption) | omega | (simp; omega) | (simp; done)))) w.heap.size (by omega)).trans (heap_alloc_new w _)
    obtain ⟨s0, s1, s2, s3, sf, sl⟩ := cells4 q0
    clear q0
    refine bodyPost_ret (v := .tuple #[polyE q (.slice (some ⟨g, 0, none⟩) n n), .bool true]) (by simp [results, Try.results64, go_sem, s0, s1, s2, s3]) rfl ⟨g, rfl, by omega, ?_, ?_, ?_⟩
    · exact HK3.out.same (put4_other _ _ _ _ _ (by omega))
    · exact HE3.out.same (put4_other _ _ _ _ _ (by omega))
    · exact put4_below (by (repeat' (first | (with_reducible assumption) | (with_reducible exact Below.refl _ _) | (with_reducible refine below_drewN ?_ _) | (with_reducible refine Below.drew ?_) | (with_reducible refine Below.alloc ?_ ?_ _) | (with_reducible refine Below.setCell ?_ ?_ _) | (with_reducible refine Below.trans ?_ (Below.mono (by assumption) ?_)) | (with_reducible exact Nat.le_refl _) | (with_reducible assumption) | omega | (simp; omega) | (simp; done)))) _ (Nat.le_refl _) _ _
set_option maxHeartbeats 1000000 in
theorem validPoly_no1 (q : Int) (v : Value) (w : World) (h : isSz q = false) :
    Calls Try.prog 64 #[.int .i64 q, v] w fun e w' => e = .returned (.tuple #[polyZ, .bool false]) ∧ Below w.heap.size w w' := by
  have HF := Lib.hid (fun w => fieldOf_no q w h)
  clear h
  go_enter Try.func64, Try.ntmps64
  go_wp2_with fail
  refine (HF.out _).mono ?_
  rintro e w1 ⟨rfl, hb1⟩
  obtain ⟨hc1, hf1⟩ := bcell hb1; have hz1 := hb1.size; (try simp at hz1); have HB1 := Lib.hid hb1; clear hb1
  have l1 : w.heap.size < w1.heap.size := by omega
  go_wp2_with fail
  have hb1 := HB1.out
  have q0 : w1.heap[w.heap.size]? = some pzblk := (Below.block (B := w.heap.size + 1) (show Below (w.heap.size + 1) (w.alloc pzblk) w1 by (repeat' (first | (with_reducible assumption) | (with_reducible exact Below.refl _ _) | (with_reducible refine below_drewN ?_ _) | (with_reducible refine Below.drew ?_) | (with_reducible refine Below.alloc ?_ ?_ _) | (with_reducible refine Below.setCell ?_ ?_ _) | (with_reducible refine Below.trans ?_ (Below.mono (by assumption) ?_)) | (with_reducible exact Nat.le_refl _) | (with_reducible assumption) | omega | (simp; omega) | (simp; done)))) w.heap.size (by omega)).trans (heap_alloc_new w _)
  obtain ⟨s0, s1, s2, s3, sf, sl⟩ := cells4 q0
  clear q0
  refine bodyPost_ret (v := .tuple #[polyZ, .bool false]) (by simp [results, Try.results64, go_sem, s0, s1, s2, s3, l1]) rfl ⟨rfl, ?_⟩
  (repeat' (first | (with_reducible assumption) | (with_reducible exact Below.refl _ _) | (with_reducible refine below_drewN ?_ _) | (with_reducible refine Below.drew ?_) | (with_reducible refine Below.alloc ?_ ?_ _) | (with_reducible refine Below.setCell ?_ ?_ _) | (with_reducible refine Below.trans ?_ (Below.mono (by assumption) ?_)) | (with_reducible exact Nat.le_refl _) | (with_reducible assumption) | omega | (simp; omega) | (simp; done)))
set_option maxHeartbeats 1000000 in
theorem validPoly_no2 (q : Int) (v : Value) (l : List Int) (w : World) (h : isSz q = true) (hv : Sl w v l) (hl : l.length ≤ 1048576) (hg : good q l = false) :
    Calls Try.prog 64 #[.int .i64 q, v] w fun e w' => e = .returned (.tuple #[polyZ, .bool false]) ∧ Below w.heap.size w w' := by
  have hq := isSz_le q h
  have HF := Lib.hid (fun w => fieldOf_yes q w h)
  have HP := Lib.hid (fun w' (hb : Below w.heap.size w w') => by have := isPoly_any q v l w' (hv.below hb (Nat.le_refl _)) hl (by omega); rw [hg] at this; exact this)
  clear h hv hg hl
  go_enter Try.func64, Try.ntmps64
  go_wp2_with fail
  refine (HF.out _).mono ?_
  rintro e w1 ⟨rfl, hb1⟩
  obtain ⟨hc1, hf1⟩ := bcell hb1; have hz1 := hb1.size; (try simp at hz1); have HB1 := Lib.hid hb1; clear hb1
  have l1 : w.heap.size < w1.heap.size := by omega
  go_wp2_with fail
  refine (HP.out _ (by have hb1 := HB1.out; (repeat' (first | (with_reducible assumption) | (with_reducible exact Below.refl _ _) | (with_reducible refine below_drewN ?_ _) | (with_reducible refine Below.drew ?_) | (with_reducible refine Below.alloc ?_ ?_ _) | (with_reducible refine Below.setCell ?_ ?_ _) | (with_reducible refine Below.trans ?_ (Below.mono (by assumption) ?_)) | (with_reducible exact Nat.le_refl _) | (with_reducible assumption) | omega | (simp; omega) | (simp; done))))).mono ?_
  rintro e w2 ⟨rfl, hb2⟩
  obtain ⟨hc2, hf2⟩ := bcell hb2; have hz2 := hb2.size; (try simp at hz2); have HB2 := Lib.hid hb2; clear hb2
  have l2 : w.heap.size < w2.heap.size := by omega
  go_wp2_with fail
  have hb1 := HB1.out
  have hb2 := HB2.out
  have q0 : w2.heap[w.heap.size]? = some pzblk := (Below.block (B := w.heap.size + 1) (show Below (w.heap.size + 1) (w.alloc pzblk) w2 by (repeat' (first | (with_reducible assumption) | (with_reducible exact Below.refl _ _) | (with_reducible refine below_drewN ?_ _) | (with_reducible refine Below.drew ?_) | (with_reducible refine Below.alloc ?_ ?_ _) | (with_reducible refine Below.setCell ?_ ?_ _) | (with_reducible refine Below.trans ?_ (Below.mono (by assumption) ?_)) | (with_reducible exact Nat.le_refl _) | (with_reducible assumption) | omega | (simp; omega) | (simp; done)))) w.heap.size (by omega)).trans (heap_alloc_new w _)
  obtain ⟨s0, s1, s2, s3, sf, sl⟩ := cells4 q0
  clear q0
  refine bodyPost_ret (v := .tuple #[polyZ, .bool false]) (by simp [results, Try.results64, go_sem, s0, s1, s2, s3]) rfl ⟨rfl, ?_⟩
  (repeat' (first | (with_reducible assumption) | (with_reducible exact Below.refl _ _) | (with_reducible refine below_drewN ?_ _) | (with_reducible refine Below.drew ?_) | (with_reducible refine Below.alloc ?_ ?_ _) | (with_reducible refine Below.setCell ?_ ?_ _) | (with_reducible refine Below.trans ?_ (Below.mono (by assumption) ?_)) | (with_reducible exact Nat.le_refl _) | (with_reducible assumption) | omega | (simp; omega) | (simp; done)))
theorem validPoly_no (q : Int) (v : Value) (l : List Int) (w : World) (hv : Sl w v l) (hl : l.length ≤ 1048576) (hg : (isSz q && good q l) = false) :
    Calls Try.prog 64 #[.int .i64 q, v] w fun e w' => e = .returned (.tuple #[polyZ, .bool false]) ∧ Below w.heap.size w w' := by
  cases h : isSz q with
  | false => exact validPoly_no1 q v w h
  | true =>
    rw [h] at hg
    exact validPoly_no2 q v l w h hv hl hg
theorem drew_heap (w : World) (k : Nat) : w.drew.heap[k]? = w.heap[k]? := rfl

end Go.Proofs.Ytapglncgicfjnaa
