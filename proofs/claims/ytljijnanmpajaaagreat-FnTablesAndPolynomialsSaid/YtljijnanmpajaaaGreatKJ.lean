/- A bundle of texts: HJ HK HN IB. -/
import Derived.Test.YtljijnanmpajaaaGreatKH
import Derived.Test.YtljijnanmpajaaaGreatKI
namespace Go.Proofs.YtljijnanmpajaaaGreat
open Go.RowKit
/-- The block of a list that a closure holds. -/
abbrev lblk (T : TypeId) (v : Value) : Obj := .cells #[v] T
theorem at_box {w : World} {b : Nat} {v : Value} {T : TypeId} (h : w.heap[b]? = some (.cells #[v] T (0, 0))) : w.cell? ⟨b, 0, none⟩ = some v := by
  rw [cell_of_row w b 0 _ T (0, 0) h]; rfl

set_option maxHeartbeats 1000000 in
/-- The closure of impl.mapped over numbers, at impl.field.element. -/
theorem cloIE (q x : Int) (i n b off cap A0 A1 : Nat) (w : World) (h : isSz q = true) (x0 : 0 ≤ x) (x1 : x < q) (hin : i < n)
    (c0 : w.cell? ⟨A0, 0, none⟩ = some (.func (.func 94) #[fdE q] #[])) (c1 : w.cell? ⟨A1, 0, none⟩ = some (.slice (some ⟨b, off, none⟩) n cap)) (c2 : w.cell? ⟨b, off + i, none⟩ = some (.int .i64 x)) :
    Calls Tryz.prog 172 #[.int .i64 i, .pointer (some ⟨A0, 0, none⟩), .pointer (some ⟨A1, 0, none⟩)] w fun e w' => e = .returned (elE q x) ∧ Below w.heap.size w w' := by
  have HE := Lib.hid (fun w => elementE q x w h x0 x1)
  have l0 := World.block_lt_of_cell? w _ c0
  have l1 := World.block_lt_of_cell? w _ c1
  have l2 := World.block_lt_of_cell? w _ c2
  simp only at l0 l1 l2
  clear h x0 x1
  go_enter Tryz.func172, Tryz.ntmps172
  go_wp2_with fail
  go_region_with (go_at_call 94; refine (HE.out _).mono ?_; rintro e w1 ⟨rfl, hb1⟩; obtain ⟨hc1, hf1⟩ := bcell hb1; (try simp only [World.size_drew] at hc1 hf1); have hz1 := hb1.size; (try simp at hz1); have HB1 := Lib.hid hb1; clear hb1; have l3 : w.heap.size < w1.heap.size := (by omega))
  all_goals
    go_wp2_with fail
    have hb1 := HB1.out
    have q0 : w1.heap[w.heap.size]? = some zeroblk := (hb1.block _ (by simp)).trans (heap_alloc_new w _)
    obtain ⟨s0, s1, s2, s3, s4, s5, s6, sf, sl⟩ := seven q0
    clear q0
    refine bodyPost_ret (v := elE q x) (by simp [results, Tryz.results172, go_sem, s0, s1, s2, s3, s4, s5, s6]) rfl ⟨rfl, ?_⟩
    (repeat' (first | (with_reducible assumption) | (with_reducible exact Below.refl _ _) | (with_reducible refine below_drewN ?_ _) | (with_reducible refine Below.drew ?_) | (with_reducible refine Below.alloc ?_ ?_ _) | (with_reducible refine Below.setCell ?_ ?_ _) | (with_reducible refine Below.trans ?_ (Below.mono (by assumption) ?_)) | (with_reducible exact Nat.le_refl _) | (with_reducible assumption) | omega | (simp; omega) | (simp; done)))
set_option maxHeartbeats 1000000 in
/-- impl.mapped over numbers, at impl.field.element. -/
theorem mappedIE (q : Int) (v : Value) (l : List Int) (w : World) (h : isSz q = true) (hv : Sl w v l) (ha : l.all (inF q) = true) (hl : l.length ≤ 1000) :
    Calls Tryz.prog 93 #[v, .func (.func 94) #[fdE q] #[]] w fun e w' => ∃ g, e = .returned (.slice (some ⟨g, 0, none⟩) l.length l.length) ∧ w.heap.size ≤ g ∧ Blk w' g l.length ∧ Els w' g q (fun i => l.getD i 0) l.length ∧ Below w.heap.size w w' := by
  have HX : Hid (∀ (T1 T2 : TypeId) (i : Nat) w', i < l.length → Below ((w.alloc (lblk T1 v)).alloc (lblk T2 (.func (.func 94) #[fdE q] #[]))).heap.size ((w.alloc (lblk T1 v)).alloc (lblk T2 (.func (.func 94) #[fdE q] #[]))) w' →
      Calls Tryz.prog 172 #[.int .i64 i, .pointer (some ⟨w.heap.size + 1, 0, none⟩), .pointer (some ⟨w.heap.size, 0, none⟩)] w' fun e w'' => e = .returned (elE q (l.getD i 0)) ∧ Below w'.heap.size w' w'') := Lib.hid fun T1 T2 i w' hi hb => by
    obtain ⟨b, off, cap, rfl, hbl, hc⟩ := hv.open rfl (by omega)
    have hx := List.all_eq_true.1 ha (l.getD i 0) (by rw [show l.getD i 0 = l[i] by simp [List.getD, hi]]; exact List.getElem_mem hi)
    simp only [inF, Bool.and_eq_true, decide_eq_true_eq] at hx
    refine cloIE q _ i l.length b off cap _ _ w' h hx.1 hx.2 hi (at_box (T := T2) ?_) (at_box (T := T1) ?_) ?_
    · rw [hb.block _ (by simp)]
      have := heap_alloc_new (w.alloc (lblk T1 (.slice (some ⟨b, off, none⟩) l.length cap))) (lblk T2 (.func (.func 94) #[fdE q] #[]))
      simpa using this
    · rw [hb.block _ (by simp; omega), Below.heap_alloc _ _ _ (by simp)]
      exact heap_alloc_new w _
    · rw [hb.cell (p := ⟨b, off + i, none⟩) (by simp; omega), World.cell?_alloc_past _ _ _ (by simp; omega), World.cell?_alloc_past _ _ _ hbl]
      exact hc i hi
  obtain ⟨a, cap, rfl⟩ := hv.form
  clear hv ha h
  generalize hf : (fun i => l.getD i 0) = f at *
  have HX' : Hid (∀ (T1 T2 : TypeId) (i : Nat) w', i < l.length → Below ((w.alloc (lblk T1 (.slice a l.length cap))).alloc (lblk T2 (.func (.func 94) #[fdE q] #[]))).heap.size ((w.alloc (lblk T1 (.slice a l.length cap))).alloc (lblk T2 (.func (.func 94) #[fdE q] #[]))) w' →
      Calls Tryz.prog 172 #[.int .i64 i, .pointer (some ⟨w.heap.size + 1, 0, none⟩), .pointer (some ⟨w.heap.size, 0, none⟩)] w' fun e w'' => e = .returned (elE q (f i)) ∧ Below w'.heap.size w' w'') := by
    subst hf
    exact HX
  clear HX hf
  generalize l.length = n at *
  go_enter Tryz.func93, Tryz.ntmps93
  go_wp2_with fail
  refine (listOf_IE q n f (w.heap.size + 1) w.heap.size _ hl (HX'.out _ _)).mono ?_
  rintro e w1 ⟨rfl, hk1, he1, hb1⟩
  have HK := Lib.hid hk1; clear hk1
  have HE := Lib.hid he1; clear he1
  have HB1 := Lib.hid hb1; clear hb1
  go_wp2
  go_ret
  have hb1 := HB1.out
  exact ⟨_, rfl, by omega, by simpa using HK.out, by simpa using HE.out, by (repeat' (first | (with_reducible assumption) | (with_reducible exact Below.refl _ _) | (with_reducible refine below_drewN ?_ _) | (with_reducible refine Below.drew ?_) | (with_reducible refine Below.alloc ?_ ?_ _) | (with_reducible refine Below.setCell ?_ ?_ _) | (with_reducible refine Below.trans ?_ (Below.mono (by assumption) ?_)) | (with_reducible exact Nat.le_refl _) | (with_reducible assumption) | omega | (simp; omega) | (simp; done)))⟩

set_option maxHeartbeats 1000000 in
/-- The closure of impl.mapped over elements, at impl.element.number. -/
theorem cloEI (q x : Int) (i n g cap A0 A1 : Nat) (w : World) (h : isSz q = true) (x0 : 0 ≤ x) (x1 : x < q) (hin : i < n)
    (c0 : w.cell? ⟨A0, 0, none⟩ = some (.func (.func 86) #[] #[])) (c1 : w.cell? ⟨A1, 0, none⟩ = some (.slice (some ⟨g, 0, none⟩) n cap))
    (he : w.cell? ⟨g, i * 7, none⟩ = some (.int .i64 q) ∧ w.cell? ⟨g, i * 7 + 1, none⟩ = some (.int .i64 (pr q)) ∧ w.cell? ⟨g, i * 7 + 2, none⟩ = some (.int .i64 (pl q)) ∧
      w.cell? ⟨g, i * 7 + 3, none⟩ = some (.int .i64 (dg q x 0)) ∧ w.cell? ⟨g, i * 7 + 4, none⟩ = some (.int .i64 (dg q x 1)) ∧ w.cell? ⟨g, i * 7 + 5, none⟩ = some (.int .i64 (dg q x 2)) ∧ w.cell? ⟨g, i * 7 + 6, none⟩ = some (.int .i64 (dg q x 3))) :
    Calls Tryz.prog 163 #[.int .i64 i, .pointer (some ⟨A0, 0, none⟩), .pointer (some ⟨A1, 0, none⟩)] w fun e w' => e = .returned (.int .i64 x) ∧ Below w.heap.size w w' := by
  have HE := Lib.hid (fun w => numberE q x w h x0 x1)
  obtain ⟨e0, e1, e2, e3, e4, e5, e6⟩ := he
  clear h x0 x1
  go_enter Tryz.func163, Tryz.ntmps163
  go_wp2_with fail
  go_region_with (go_at_call 86; refine (HE.out _).mono ?_; rintro e w1 ⟨rfl, hb1⟩; obtain ⟨hc1, hf1⟩ := bcell hb1; (try simp only [World.size_drew] at hc1 hf1); have hz1 := hb1.size; (try simp at hz1); have HB1 := Lib.hid hb1; clear hb1)
  all_goals
    go_wp2
    go_ret
    have hb1 := HB1.out
    exact ⟨rfl, by (repeat' (first | (with_reducible assumption) | (with_reducible exact Below.refl _ _) | (with_reducible refine below_drewN ?_ _) | (with_reducible refine Below.drew ?_) | (with_reducible refine Below.alloc ?_ ?_ _) | (with_reducible refine Below.setCell ?_ ?_ _) | (with_reducible refine Below.trans ?_ (Below.mono (by assumption) ?_)) | (with_reducible exact Nat.le_refl _) | (with_reducible assumption) | omega | (simp; omega) | (simp; done)))⟩
set_option maxHeartbeats 1000000 in
/-- impl.mapped over elements, at impl.element.number. -/
theorem mappedEI (q : Int) (v : Value) (f : Nat → Int) (n : Nat) (w : World) (h : isSz q = true) (hv : Se w v q f n) (ha : ∀ i, i < n → El q (f i)) (hl : n ≤ 1000) :
    Calls Tryz.prog 84 #[v, .func (.func 86) #[] #[]] w fun e w' => ∃ v', e = .returned v' ∧ Row w' w.heap.size v' (fl f n) ∧ Below w.heap.size w w' := by
  obtain ⟨g, cap, rfl, hg, he⟩ := hv
  have HX : Hid (∀ (T1 T2 : TypeId) (i : Nat) w', i < n → Below ((w.alloc (lblk T1 (.slice (some ⟨g, 0, none⟩) n cap))).alloc (lblk T2 (.func (.func 86) #[] #[]))).heap.size ((w.alloc (lblk T1 (.slice (some ⟨g, 0, none⟩) n cap))).alloc (lblk T2 (.func (.func 86) #[] #[]))) w' →
      Calls Tryz.prog 163 #[.int .i64 i, .pointer (some ⟨w.heap.size + 1, 0, none⟩), .pointer (some ⟨w.heap.size, 0, none⟩)] w' fun e w'' => e = .returned (.int .i64 (f i)) ∧ Below w'.heap.size w' w'') := Lib.hid fun T1 T2 i w' hi hb => by
    have hx := ha i hi
    have hz := hb.size
    simp at hz
    refine cloEI q _ i n g cap _ _ w' h hx.1 hx.2 hi (at_box (T := T2) ?_) (at_box (T := T1) ?_) ?_
    · rw [hb.block _ (by simp)]
      have := heap_alloc_new (w.alloc (lblk T1 (.slice (some ⟨g, 0, none⟩) n cap))) (lblk T2 (.func (.func 86) #[] #[]))
      simpa using this
    · rw [hb.block _ (by simp; omega), Below.heap_alloc _ _ _ (by simp)]
      exact heap_alloc_new w _
    · have hbw : Below w.heap.size w w' := by (repeat' (first | (with_reducible assumption) | (with_reducible exact Below.refl _ _) | (with_reducible refine below_drewN ?_ _) | (with_reducible refine Below.drew ?_) | (with_reducible refine Below.alloc ?_ ?_ _) | (with_reducible refine Below.setCell ?_ ?_ _) | (with_reducible refine Below.trans ?_ (Below.mono (by assumption) ?_)) | (with_reducible exact Nat.le_refl _) | (with_reducible assumption) | omega | (simp; omega) | (simp; done)))
      exact (he.below hbw hg) i hi
  clear ha h he
  go_enter Tryz.func84, Tryz.ntmps84
  go_wp2_with fail
  refine (listOf_EI n f (w.heap.size + 1) w.heap.size _ hl (HX.out _ _)).mono ?_
  rintro e w1 ⟨v, rfl, hr1, hb1⟩
  have HR := Lib.hid hr1; clear hr1
  have HB1 := Lib.hid hb1; clear hb1
  go_wp2
  go_ret
  have hb1 := HB1.out
  exact ⟨_, rfl, HR.out.mono (by simp; omega), by (repeat' (first | (with_reducible assumption) | (with_reducible exact Below.refl _ _) | (with_reducible refine below_drewN ?_ _) | (with_reducible refine Below.drew ?_) | (with_reducible refine Below.alloc ?_ ?_ _) | (with_reducible refine Below.setCell ?_ ?_ _) | (with_reducible refine Below.trans ?_ (Below.mono (by assumption) ?_)) | (with_reducible exact Nat.le_refl _) | (with_reducible assumption) | omega | (simp; omega) | (simp; done)))⟩
/-- A polynomial: its field, its coefficients. -/
abbrev polyE (q : Int) (v : Value) : Value := .agg #[.int .i64 q, .int .i64 (pr q), .int .i64 (pl q), v]
/-- That of a call that fails. -/
abbrev polyZ : Value := .agg #[.int .i64 0, .int .i64 0, .int .i64 0, .slice none 0 0]
abbrev pblk (q : Int) (v : Value) : Obj := .cells #[.int .i64 q, .int .i64 (pr q), .int .i64 (pl q), v] 60
abbrev pzblk : Obj := .cells #[.int .i64 0, .int .i64 0, .int .i64 0, .slice none 0 0] 60
theorem cells4 {w : World} {b : Nat} {x0 x1 x2 x3 : Value} (h : w.heap[b]? = some (.cells #[x0, x1, x2, x3] 60 (0, 0))) :
    w.cell? ⟨b, 0, none⟩ = some x0 ∧ w.cell? ⟨b, 1, none⟩ = some x1 ∧ w.cell? ⟨b, 2, none⟩ = some x2 ∧ w.cell? ⟨b, 3, none⟩ = some x3 ∧ (∀ o, w.frozen? ⟨b, o, none⟩ = false) ∧ b < w.heap.size := by
  refine ⟨?_, ?_, ?_, ?_, fun o => frozen_of_row w b o _ _ h, (Array.getElem?_eq_some_iff.1 h).1⟩ <;> rw [cell_of_row w b _ _ _ (0, 0) h] <;> rfl
theorem good_parts {q : Int} {l : List Int} (h : good q l = true) : (l.length : Int) ≤ q ∧ l.all (inF q) = true := by
  simp only [good, Bool.and_eq_true, decide_eq_true_eq] at h
  exact ⟨h.1, h.2.1⟩

/-- Four stores: a polynomial into its block. -/
abbrev put4 (w : World) (b : Nat) (q : Int) (v : Value) : World := (((w.setCell ⟨b, 0, none⟩ (.int .i64 q)).setCell ⟨b, 1, none⟩ (.int .i64 (pr q))).setCell ⟨b, 2, none⟩ (.int .i64 (pl q))).setCell ⟨b, 3, none⟩ v
theorem put4_other (w : World) (b : Nat) (q : Int) (v : Value) (k : Nat) (h : k ≠ b) : (put4 w b q v).heap[k]? = w.heap[k]? := by
  unfold put4
  iterate 4 rw [heap_setCell_other _ _ _ _ h]
theorem put4_below {B : Nat} {w0 w : World} (hb : Below B w0 w) (b : Nat) (h : B ≤ b) (q : Int) (v : Value) : Below B w0 (put4 w b q v) := by
  unfold put4
  exact (((hb.setCell h _).setCell h _).setCell h _).setCell h _

set_option maxHeartbeats 2000000 in
/-- impl.validPoly. -/
theorem validPoly_yes (q : Int) (v : Value) (l : List Int) (w : World) (h : isSz q = true) (hv : Sl w v l) (hg : good q l = true) :
    Calls Tryz.prog 83 #[.int .i64 q, v] w fun e w' => ∃ g, e = .returned (.tuple #[polyE q (.slice (some ⟨g, 0, none⟩) l.length l.length), .bool true]) ∧ w.heap.size ≤ g ∧ Blk w' g l.length ∧ Els w' g q (fun i => l.getD i 0) l.length ∧ Below w.heap.size w w' := by
  have hq := isSz_le q h
  obtain ⟨hlen, hall⟩ := good_parts hg
  have HF := Lib.hid (fun w => fieldOf_yes q w h)
  have HP := Lib.hid (fun w' (hb : Below w.heap.size w w') => by have := isPoly_any q v l w' (hv.below hb (Nat.le_refl _)) (by omega) (by omega); rw [hg] at this; exact this)
  have HM := Lib.hid (fun w' (hb : Below w.heap.size w w') => mappedIE q v l w' h (hv.below hb (Nat.le_refl _)) hall (by omega))
  obtain ⟨a, cap, rfl⟩ := hv.form
  clear h hv hg hall
  generalize (fun i => l.getD i 0) = f at *
  generalize l.length = n at *
  go_enter Tryz.func83, Tryz.ntmps83
  go_wp2_with fail
  refine (HF.out _).mono ?_
  rintro e w1 ⟨rfl, hb1⟩
  obtain ⟨hc1, hf1⟩ := bcell hb1; have hz1 := hb1.size; (try simp at hz1); have HB1 := Lib.hid hb1; clear hb1
  have l1 : w.heap.size < w1.heap.size := by omega
  go_wp2_with fail
  refine (HP.out _ (by have hb1 := HB1.out; (repeat' (first | (with_reducible assumption) | (with_reducible exact Below.refl _ _) | (with_reducible refine below_drewN ?_ _) | (with_reducible refine Below.drew ?_) | (with_reducible refine Below.alloc ?_ ?_ _) | (with_reducible refine Below.setCell ?_ ?_ _) | (with_reducible refine Below.trans ?_ (Below.mono (by assumption) ?_)) | (with_reducible exact Nat.le_refl _) | (with_reducible assumption) | omega | (simp; omega) | (simp; done))))).mono ?_
  rintro e w2 ⟨rfl, hb2⟩
  obtain ⟨hc2, hf2⟩ := bcell hb2; have hz2 := hb2.size; (try simp at hz2); have HB2 := Lib.hid hb2; clear hb2
  have l2 : w.heap.size < w2.heap.size := by omega
  have l3 : w1.heap.size < w2.heap.size := by omega
  have hb12 : Below w.heap.size w w2 := by have hb1 := HB1.out; have hb2 := HB2.out; (repeat' (first | (with_reducible assumption) | (with_reducible exact Below.refl _ _) | (with_reducible refine below_drewN ?_ _) | (with_reducible refine Below.drew ?_) | (with_reducible refine Below.alloc ?_ ?_ _) | (with_reducible refine Below.setCell ?_ ?_ _) | (with_reducible refine Below.trans ?_ (Below.mono (by assumption) ?_)) | (with_reducible exact Nat.le_refl _) | (with_reducible assumption) | omega | (simp; omega) | (simp; done)))
  go_wp2_with fail
  go_region_with (go_at_call 93; refine (HM.out _ (by (repeat' (first | (with_reducible assumption) | (with_reducible exact Below.refl _ _) | (with_reducible refine below_drewN ?_ _) | (with_reducible refine Below.drew ?_) | (with_reducible refine Below.alloc ?_ ?_ _) | (with_reducible refine Below.setCell ?_ ?_ _) | (with_reducible refine Below.trans ?_ (Below.mono (by assumption) ?_)) | (with_reducible exact Nat.le_refl _) | (with_reducible assumption) | omega | (simp; omega) | (simp; done))))).mono ?_; rintro e w3 ⟨g, rfl, hg, hk3, he3, hb3⟩; have HK3 := Lib.hid hk3; have HE3 := Lib.hid he3; clear hk3 he3; (try simp at hg); obtain ⟨hc3, hf3⟩ := bcell hb3; (try simp only [World.size_drew] at hc3 hf3); have hz3 := hb3.size; (try simp at hz3); have HB3 := Lib.hid hb3; clear hb3; have l4 : w.heap.size < w3.heap.size := (by omega); have l5 : w1.heap.size < w3.heap.size := (by omega))
  all_goals
    go_wp2_with fail
    have hb1 := HB1.out
    have hb2 := HB2.out
    have hb3 := HB3.out
    have q0 : w3.heap[w.heap.size]? = some pzblk := (Below.block (B := w.heap.size + 1) (show Below (w.heap.size + 1) (w.alloc pzblk) w3 by (repeat' (first | (with_reducible assumption) | (with_reducible exact Below.refl _ _) | (with_reducible refine below_drewN ?_ _) | (with_reducible refine Below.drew ?_) | (with_reducible refine Below.alloc ?_ ?_ _) | (with_reducible refine Below.setCell ?_ ?_ _) | (with_reducible refine Below.trans ?_ (Below.mono (by assumption) ?_)) | (with_reducible exact Nat.le_refl _) | (with_reducible assumption) | omega | (simp; omega) | (simp; done)))) w.heap.size (by omega)).trans (heap_alloc_new w _)
    obtain ⟨s0, s1, s2, s3, sf, sl⟩ := cells4 q0
    clear q0
    refine bodyPost_ret (v := .tuple #[polyE q (.slice (some ⟨g, 0, none⟩) n n), .bool true]) (by simp [results, Tryz.results83, go_sem, s0, s1, s2, s3]) rfl ⟨g, rfl, by omega, ?_, ?_, ?_⟩
    · exact HK3.out.same (put4_other _ _ _ _ _ (by omega))
    · exact HE3.out.same (put4_other _ _ _ _ _ (by omega))
    · exact put4_below (by (repeat' (first | (with_reducible assumption) | (with_reducible exact Below.refl _ _) | (with_reducible refine below_drewN ?_ _) | (with_reducible refine Below.drew ?_) | (with_reducible refine Below.alloc ?_ ?_ _) | (with_reducible refine Below.setCell ?_ ?_ _) | (with_reducible refine Below.trans ?_ (Below.mono (by assumption) ?_)) | (with_reducible exact Nat.le_refl _) | (with_reducible assumption) | omega | (simp; omega) | (simp; done)))) _ (Nat.le_refl _) _ _
set_option maxHeartbeats 1000000 in
theorem validPoly_no1 (q : Int) (v : Value) (w : World) (h : isSz q = false) :
    Calls Tryz.prog 83 #[.int .i64 q, v] w fun e w' => e = .returned (.tuple #[polyZ, .bool false]) ∧ Below w.heap.size w w' := by
  have HF := Lib.hid (fun w => fieldOf_no q w h)
  clear h
  go_enter Tryz.func83, Tryz.ntmps83
  go_wp2_with fail
  refine (HF.out _).mono ?_
  rintro e w1 ⟨rfl, hb1⟩
  obtain ⟨hc1, hf1⟩ := bcell hb1; have hz1 := hb1.size; (try simp at hz1); have HB1 := Lib.hid hb1; clear hb1
  have l1 : w.heap.size < w1.heap.size := by omega
  go_wp2_with fail
  have hb1 := HB1.out
  have q0 : w1.heap[w.heap.size]? = some pzblk := (Below.block (B := w.heap.size + 1) (show Below (w.heap.size + 1) (w.alloc pzblk) w1 by (repeat' (first | (with_reducible assumption) | (with_reducible exact Below.refl _ _) | (with_reducible refine below_drewN ?_ _) | (with_reducible refine Below.drew ?_) | (with_reducible refine Below.alloc ?_ ?_ _) | (with_reducible refine Below.setCell ?_ ?_ _) | (with_reducible refine Below.trans ?_ (Below.mono (by assumption) ?_)) | (with_reducible exact Nat.le_refl _) | (with_reducible assumption) | omega | (simp; omega) | (simp; done)))) w.heap.size (by omega)).trans (heap_alloc_new w _)
  obtain ⟨s0, s1, s2, s3, sf, sl⟩ := cells4 q0
  clear q0
  refine bodyPost_ret (v := .tuple #[polyZ, .bool false]) (by simp [results, Tryz.results83, go_sem, s0, s1, s2, s3, l1]) rfl ⟨rfl, ?_⟩
  (repeat' (first | (with_reducible assumption) | (with_reducible exact Below.refl _ _) | (with_reducible refine below_drewN ?_ _) | (with_reducible refine Below.drew ?_) | (with_reducible refine Below.alloc ?_ ?_ _) | (with_reducible refine Below.setCell ?_ ?_ _) | (with_reducible refine Below.trans ?_ (Below.mono (by assumption) ?_)) | (with_reducible exact Nat.le_refl _) | (with_reducible assumption) | omega | (simp; omega) | (simp; done)))
set_option maxHeartbeats 1000000 in
theorem validPoly_no2 (q : Int) (v : Value) (l : List Int) (w : World) (h : isSz q = true) (hv : Sl w v l) (hl : l.length ≤ 1048576) (hg : good q l = false) :
    Calls Tryz.prog 83 #[.int .i64 q, v] w fun e w' => e = .returned (.tuple #[polyZ, .bool false]) ∧ Below w.heap.size w w' := by
  have hq := isSz_le q h
  have HF := Lib.hid (fun w => fieldOf_yes q w h)
  have HP := Lib.hid (fun w' (hb : Below w.heap.size w w') => by have := isPoly_any q v l w' (hv.below hb (Nat.le_refl _)) hl (by omega); rw [hg] at this; exact this)
  clear h hv hg hl
  go_enter Tryz.func83, Tryz.ntmps83
  go_wp2_with fail
  refine (HF.out _).mono ?_
  rintro e w1 ⟨rfl, hb1⟩
  obtain ⟨hc1, hf1⟩ := bcell hb1; have hz1 := hb1.size; (try simp at hz1); have HB1 := Lib.hid hb1; clear hb1
  have l1 : w.heap.size < w1.heap.size := by omega
  go_wp2_with fail
  refine (HP.out _ (by have hb1 := HB1.out; (repeat' (first | (with_reducible assumption) | (with_reducible exact Below.refl _ _) | (with_reducible refine below_drewN ?_ _) | (with_reducible refine Below.drew ?_) | (with_reducible refine Below.alloc ?_ ?_ _) | (with_reducible refine Below.setCell ?_ ?_ _) | (with_reducible refine Below.trans ?_ (Below.mono (by assumption) ?_)) | (with_reducible exact Nat.le_refl _) | (with_reducible assumption) | omega | (simp; omega) | (simp; done))))).mono ?_
  rintro e w2 ⟨rfl, hb2⟩
  obtain ⟨hc2, hf2⟩ := bcell hb2; have hz2 := hb2.size; (try simp at hz2); have HB2 := Lib.hid hb2; clear hb2
  have l2 : w.heap.size < w2.heap.size := by omega
  go_wp2_with fail
  have hb1 := HB1.out
  have hb2 := HB2.out
  have q0 : w2.heap[w.heap.size]? = some pzblk := (Below.block (B := w.heap.size + 1) (show Below (w.heap.size + 1) (w.alloc pzblk) w2 by (repeat' (first | (with_reducible assumption) | (with_reducible exact Below.refl _ _) | (with_reducible refine below_drewN ?_ _) | (with_reducible refine Below.drew ?_) | (with_reducible refine Below.alloc ?_ ?_ _) | (with_reducible refine Below.setCell ?_ ?_ _) | (with_reducible refine Below.trans ?_ (Below.mono (by assumption) ?_)) | (with_reducible exact Nat.le_refl _) | (with_reducible assumption) | omega | (simp; omega) | (simp; done)))) w.heap.size (by omega)).trans (heap_alloc_new w _)
  obtain ⟨s0, s1, s2, s3, sf, sl⟩ := cells4 q0
  clear q0
  refine bodyPost_ret (v := .tuple #[polyZ, .bool false]) (by simp [results, Tryz.results83, go_sem, s0, s1, s2, s3]) rfl ⟨rfl, ?_⟩
  (repeat' (first | (with_reducible assumption) | (with_reducible exact Below.refl _ _) | (with_reducible refine below_drewN ?_ _) | (with_reducible refine Below.drew ?_) | (with_reducible refine Below.alloc ?_ ?_ _) | (with_reducible refine Below.setCell ?_ ?_ _) | (with_reducible refine Below.trans ?_ (Below.mono (by assumption) ?_)) | (with_reducible exact Nat.le_refl _) | (with_reducible assumption) | omega | (simp; omega) | (simp; done)))
theorem validPoly_no (q : Int) (v : Value) (l : List Int) (w : World) (hv : Sl w v l) (hl : l.length ≤ 1048576) (hg : (isSz q && good q l) = false) :
    Calls Tryz.prog 83 #[.int .i64 q, v] w fun e w' => e = .returned (.tuple #[polyZ, .bool false]) ∧ Below w.heap.size w w' := by
  cases h : isSz q with
  | false => exact validPoly_no1 q v w h
  | true =>
    rw [h] at hg
    exact validPoly_no2 q v l w h hv hl hg
/-- impl.poly.degree. -/
theorem degreeE (q : Int) (g n cap : Nat) (w : World) (hn : n ≤ 1000) :
    Calls Tryz.prog 89 #[polyE q (.slice (some ⟨g, 0, none⟩) n cap)] w fun e w' => e = .returned (.int .i64 ((n : Int) - 1)) ∧ Below w.heap.size w w' := by
  go_enter Tryz.func89, Tryz.ntmps89
  go_wp2
  go_ret
  exact ⟨rfl, by (repeat' (first | (with_reducible assumption) | (with_reducible exact Below.refl _ _) | (with_reducible refine below_drewN ?_ _) | (with_reducible refine Below.drew ?_) | (with_reducible refine Below.alloc ?_ ?_ _) | (with_reducible refine Below.setCell ?_ ?_ _) | (with_reducible refine Below.trans ?_ (Below.mono (by assumption) ?_)) | (with_reducible exact Nat.le_refl _) | (with_reducible assumption) | omega | (simp; omega) | (simp; done)))⟩
theorem drew_heap (w : World) (k : Nat) : w.drew.heap[k]? = w.heap[k]? := rfl

set_option maxHeartbeats 1000000 in
/-- The closure of impl.mapped over elements, at impl.poly.at. -/
theorem clo_at (q x y : Int) (R : Value) (i n g cap A0 A1 : Nat) (w : World) (hin : i < n)
    (HX : ∀ w', Below w.heap.size w w' → Calls Tryz.prog 98 #[R, elE q x] w' fun e w'' => e = .returned (elE q y) ∧ Below w'.heap.size w' w'')
    (c0 : w.cell? ⟨A0, 0, none⟩ = some (.func (.func 98) #[R] #[])) (c1 : w.cell? ⟨A1, 0, none⟩ = some (.slice (some ⟨g, 0, none⟩) n cap))
    (he : w.cell? ⟨g, i * 7, none⟩ = some (.int .i64 q) ∧ w.cell? ⟨g, i * 7 + 1, none⟩ = some (.int .i64 (pr q)) ∧ w.cell? ⟨g, i * 7 + 2, none⟩ = some (.int .i64 (pl q)) ∧
      w.cell? ⟨g, i * 7 + 3, none⟩ = some (.int .i64 (dg q x 0)) ∧ w.cell? ⟨g, i * 7 + 4, none⟩ = some (.int .i64 (dg q x 1)) ∧ w.cell? ⟨g, i * 7 + 5, none⟩ = some (.int .i64 (dg q x 2)) ∧ w.cell? ⟨g, i * 7 + 6, none⟩ = some (.int .i64 (dg q x 3))) :
    Calls Tryz.prog 201 #[.int .i64 i, .pointer (some ⟨A0, 0, none⟩), .pointer (some ⟨A1, 0, none⟩)] w fun e w' => e = .returned (elE q y) ∧ Below w.heap.size w w' := by
  have HXX := Lib.hid HX; clear HX
  obtain ⟨e0, e1, e2, e3, e4, e5, e6⟩ := he
  have l0 := World.block_lt_of_cell? w _ c0
  have l1 := World.block_lt_of_cell? w _ c1
  have l2 := World.block_lt_of_cell? w _ e0
  simp only at l0 l1 l2
  go_enter Tryz.func201, Tryz.ntmps201
  go_wp2_with fail
  go_region_with (go_at_call 98; refine (HXX.out _ (by (repeat' (first | (with_reducible assumption) | (with_reducible exact Below.refl _ _) | (with_reducible refine below_drewN ?_ _) | (with_reducible refine Below.drew ?_) | (with_reducible refine Below.alloc ?_ ?_ _) | (with_reducible refine Below.setCell ?_ ?_ _) | (with_reducible refine Below.trans ?_ (Below.mono (by assumption) ?_)) | (with_reducible exact Nat.le_refl _) | (with_reducible assumption) | omega | (simp; omega) | (simp; done))))).mono ?_; rintro e w1 ⟨rfl, hb1⟩; obtain ⟨hc1, hf1⟩ := bcell hb1; (try simp only [World.size_drew] at hc1 hf1); have hz1 := hb1.size; (try simp at hz1); have HB1 := Lib.hid hb1; clear hb1; have l3 : w.heap.size < w1.heap.size := (by omega))
  all_goals
    go_wp2_with fail
    have hb1 := HB1.out
    have q0 : w1.heap[w.heap.size]? = some zeroblk := (hb1.block _ (by simp)).trans (heap_alloc_new w _)
    obtain ⟨s0, s1, s2, s3, s4, s5, s6, sf, sl⟩ := seven q0
    clear q0
    refine bodyPost_ret (v := elE q y) (by simp [results, Tryz.results201, go_sem, s0, s1, s2, s3, s4, s5, s6]) rfl ⟨rfl, ?_⟩
    (repeat' (first | (with_reducible assumption) | (with_reducible exact Below.refl _ _) | (with_reducible refine below_drewN ?_ _) | (with_reducible refine Below.drew ?_) | (with_reducible refine Below.alloc ?_ ?_ _) | (with_reducible refine Below.setCell ?_ ?_ _) | (with_reducible refine Below.trans ?_ (Below.mono (by assumption) ?_)) | (with_reducible exact Nat.le_refl _) | (with_reducible assumption) | omega | (simp; omega) | (simp; done)))
set_option maxHeartbeats 1000000 in
/-- impl.mapped over elements, at impl.poly.at. -/
theorem mapped_at (q : Int) (R v : Value) (f f2 : Nat → Int) (n : Nat) (w : World) (hv : Se w v q f n) (hl : n ≤ 1000)
    (HC : ∀ i, i < n → ∀ w', Below w.heap.size w w' → Calls Tryz.prog 98 #[R, elE q (f i)] w' fun e w'' => e = .returned (elE q (f2 i)) ∧ Below w'.heap.size w' w'') :
    Calls Tryz.prog 164 #[v, .func (.func 98) #[R] #[]] w fun e w' => ∃ g, e = .returned (.slice (some ⟨g, 0, none⟩) n n) ∧ w.heap.size ≤ g ∧ Blk w' g n ∧ Els w' g q f2 n ∧ Below w.heap.size w w' := by
  obtain ⟨g, cap, rfl, hg, he⟩ := hv
  have HX : Hid (∀ (T1 T2 : TypeId) (i : Nat) w', i < n → Below ((w.alloc (.cells #[.slice (some ⟨g, 0, none⟩) n cap] T1)).alloc (.cells #[.func (.func 98) #[R] #[]] T2)).heap.size ((w.alloc (.cells #[.slice (some ⟨g, 0, none⟩) n cap] T1)).alloc (.cells #[.func (.func 98) #[R] #[]] T2)) w' →
      Calls Tryz.prog 201 #[.int .i64 i, .pointer (some ⟨w.heap.size + 1, 0, none⟩), .pointer (some ⟨w.heap.size, 0, none⟩)] w' fun e w'' => e = .returned (elE q (f2 i)) ∧ Below w'.heap.size w' w'') := Lib.hid fun T1 T2 i w' hi hb => by
    have hbw : Below w.heap.size w w' := by (repeat' (first | (with_reducible assumption) | (with_reducible exact Below.refl _ _) | (with_reducible refine below_drewN ?_ _) | (with_reducible refine Below.drew ?_) | (with_reducible refine Below.alloc ?_ ?_ _) | (with_reducible refine Below.setCell ?_ ?_ _) | (with_reducible refine Below.trans ?_ (Below.mono (by assumption) ?_)) | (with_reducible exact Nat.le_refl _) | (with_reducible assumption) | omega | (simp; omega) | (simp; done)))
    refine clo_at q _ _ R i n g cap _ _ w' hi (fun w'' hb'' => HC i hi w'' (hbw.trans (hb''.mono hbw.size))) (at_box (T := T2) ?_) (at_box (T := T1) ?_) ?_
    · rw [hb.block _ (by simp)]
      have := heap_alloc_new (w.alloc (.cells #[.slice (some ⟨g, 0, none⟩) n cap] T1)) (.cells #[.func (.func 98) #[R] #[]] T2)
      simpa using this
    · rw [hb.block _ (by simp; omega), Below.heap_alloc _ _ _ (by simp)]
      exact heap_alloc_new w _
    · exact (he.below hbw hg) i hi
  clear HC he
  go_enter Tryz.func164, Tryz.ntmps164
  go_wp2_with fail
  refine (listOf_EE q n f2 (w.heap.size + 1) w.heap.size _ hl (HX.out _ _)).mono ?_
  rintro e w1 ⟨rfl, hk1, he1, hb1⟩
  have HK := Lib.hid hk1; clear hk1
  have HE := Lib.hid he1; clear he1
  have HB1 := Lib.hid hb1; clear hb1
  go_wp2
  go_ret
  have hb1 := HB1.out
  exact ⟨_, rfl, by omega, by simpa using HK.out, by simpa using HE.out, by (repeat' (first | (with_reducible assumption) | (with_reducible exact Below.refl _ _) | (with_reducible refine below_drewN ?_ _) | (with_reducible refine Below.drew ?_) | (with_reducible refine Below.alloc ?_ ?_ _) | (with_reducible refine Below.setCell ?_ ?_ _) | (with_reducible refine Below.trans ?_ (Below.mono (by assumption) ?_)) | (with_reducible exact Nat.le_refl _) | (with_reducible assumption) | omega | (simp; omega) | (simp; done)))⟩

set_option maxHeartbeats 1000000 in
/-- The closure of impl.mapped over elements, at impl.element.times. -/
theorem clo_times (q x y : Int) (R : Value) (i n g cap A0 A1 : Nat) (w : World) (hin : i < n)
    (HX : ∀ w', Below w.heap.size w w' → Calls Tryz.prog 170 #[R, elE q x] w' fun e w'' => e = .returned (elE q y) ∧ Below w'.heap.size w' w'')
    (c0 : w.cell? ⟨A0, 0, none⟩ = some (.func (.func 170) #[R] #[])) (c1 : w.cell? ⟨A1, 0, none⟩ = some (.slice (some ⟨g, 0, none⟩) n cap))
    (he : w.cell? ⟨g, i * 7, none⟩ = some (.int .i64 q) ∧ w.cell? ⟨g, i * 7 + 1, none⟩ = some (.int .i64 (pr q)) ∧ w.cell? ⟨g, i * 7 + 2, none⟩ = some (.int .i64 (pl q)) ∧
      w.cell? ⟨g, i * 7 + 3, none⟩ = some (.int .i64 (dg q x 0)) ∧ w.cell? ⟨g, i * 7 + 4, none⟩ = some (.int .i64 (dg q x 1)) ∧ w.cell? ⟨g, i * 7 + 5, none⟩ = some (.int .i64 (dg q x 2)) ∧ w.cell? ⟨g, i * 7 + 6, none⟩ = some (.int .i64 (dg q x 3))) :
    Calls Tryz.prog 201 #[.int .i64 i, .pointer (some ⟨A0, 0, none⟩), .pointer (some ⟨A1, 0, none⟩)] w fun e w' => e = .returned (elE q y) ∧ Below w.heap.size w w' := by
  have HXX := Lib.hid HX; clear HX
  obtain ⟨e0, e1, e2, e3, e4, e5, e6⟩ := he
  have l0 := World.block_lt_of_cell? w _ c0
  have l1 := World.block_lt_of_cell? w _ c1
  have l2 := World.block_lt_of_cell? w _ e0
  simp only at l0 l1 l2
  go_enter Tryz.func201, Tryz.ntmps201
  go_wp2_with fail
  go_region_with (go_at_call 170; refine (HXX.out _ (by (repeat' (first | (with_reducible assumption) | (with_reducible exact Below.refl _ _) | (with_reducible refine below_drewN ?_ _) | (with_reducible refine Below.drew ?_) | (with_reducible refine Below.alloc ?_ ?_ _) | (with_reducible refine Below.setCell ?_ ?_ _) | (with_reducible refine Below.trans ?_ (Below.mono (by assumption) ?_)) | (with_reducible exact Nat.le_refl _) | (with_reducible assumption) | omega | (simp; omega) | (simp; done))))).mono ?_; rintro e w1 ⟨rfl, hb1⟩; obtain ⟨hc1, hf1⟩ := bcell hb1; (try simp only [World.size_drew] at hc1 hf1); have hz1 := hb1.size; (try simp at hz1); have HB1 := Lib.hid hb1; clear hb1; have l3 : w.heap.size < w1.heap.size := (by omega))
  all_goals
    go_wp2_with fail
    have hb1 := HB1.out
    have q0 : w1.heap[w.heap.size]? = some zeroblk := (hb1.block _ (by simp)).trans (heap_alloc_new w _)
    obtain ⟨s0, s1, s2, s3, s4, s5, s6, sf, sl⟩ := seven q0
    clear q0
    refine bodyPost_ret (v := elE q y) (by simp [results, Tryz.results201, go_sem, s0, s1, s2, s3, s4, s5, s6]) rfl ⟨rfl, ?_⟩
    (repeat' (first | (with_reducible assumption) | (with_reducible exact Below.refl _ _) | (with_reducible refine below_drewN ?_ _) | (with_reducible refine Below.drew ?_) | (with_reducible refine Below.alloc ?_ ?_ _) | (with_reducible refine Below.setCell ?_ ?_ _) | (with_reducible refine Below.trans ?_ (Below.mono (by assumption) ?_)) | (with_reducible exact Nat.le_refl _) | (with_reducible assumption) | omega | (simp; omega) | (simp; done)))
set_option maxHeartbeats 1000000 in
/-- impl.mapped over elements, at impl.element.times. -/
theorem mapped_times (q : Int) (R v : Value) (f f2 : Nat → Int) (n : Nat) (w : World) (hv : Se w v q f n) (hl : n ≤ 1000)
    (HC : ∀ i, i < n → ∀ w', Below w.heap.size w w' → Calls Tryz.prog 170 #[R, elE q (f i)] w' fun e w'' => e = .returned (elE q (f2 i)) ∧ Below w'.heap.size w' w'') :
    Calls Tryz.prog 164 #[v, .func (.func 170) #[R] #[]] w fun e w' => ∃ g, e = .returned (.slice (some ⟨g, 0, none⟩) n n) ∧ w.heap.size ≤ g ∧ Blk w' g n ∧ Els w' g q f2 n ∧ Below w.heap.size w w' := by
  obtain ⟨g, cap, rfl, hg, he⟩ := hv
  have HX : Hid (∀ (T1 T2 : TypeId) (i : Nat) w', i < n → Below ((w.alloc (.cells #[.slice (some ⟨g, 0, none⟩) n cap] T1)).alloc (.cells #[.func (.func 170) #[R] #[]] T2)).heap.size ((w.alloc (.cells #[.slice (some ⟨g, 0, none⟩) n cap] T1)).alloc (.cells #[.func (.func 170) #[R] #[]] T2)) w' →
      Calls Tryz.prog 201 #[.int .i64 i, .pointer (some ⟨w.heap.size + 1, 0, none⟩), .pointer (some ⟨w.heap.size, 0, none⟩)] w' fun e w'' => e = .returned (elE q (f2 i)) ∧ Below w'.heap.size w' w'') := Lib.hid fun T1 T2 i w' hi hb => by
    have hbw : Below w.heap.size w w' := by (repeat' (first | (with_reducible assumption) | (with_reducible exact Below.refl _ _) | (with_reducible refine below_drewN ?_ _) | (with_reducible refine Below.drew ?_) | (with_reducible refine Below.alloc ?_ ?_ _) | (with_reducible refine Below.setCell ?_ ?_ _) | (with_reducible refine Below.trans ?_ (Below.mono (by assumption) ?_)) | (with_reducible exact Nat.le_refl _) | (with_reducible assumption) | omega | (simp; omega) | (simp; done)))
    refine clo_times q _ _ R i n g cap _ _ w' hi (fun w'' hb'' => HC i hi w'' (hbw.trans (hb''.mono hbw.size))) (at_box (T := T2) ?_) (at_box (T := T1) ?_) ?_
    · rw [hb.block _ (by simp)]
      have := heap_alloc_new (w.alloc (.cells #[.slice (some ⟨g, 0, none⟩) n cap] T1)) (.cells #[.func (.func 170) #[R] #[]] T2)
      simpa using this
    · rw [hb.block _ (by simp; omega), Below.heap_alloc _ _ _ (by simp)]
      exact heap_alloc_new w _
    · exact (he.below hbw hg) i hi
  clear HC he
  go_enter Tryz.func164, Tryz.ntmps164
  go_wp2_with fail
  refine (listOf_EE q n f2 (w.heap.size + 1) w.heap.size _ hl (HX.out _ _)).mono ?_
  rintro e w1 ⟨rfl, hk1, he1, hb1⟩
  have HK := Lib.hid hk1; clear hk1
  have HE := Lib.hid he1; clear he1
  have HB1 := Lib.hid hb1; clear hb1
  go_wp2
  go_ret
  have hb1 := HB1.out
  exact ⟨_, rfl, by omega, by simpa using HK.out, by simpa using HE.out, by (repeat' (first | (with_reducible assumption) | (with_reducible exact Below.refl _ _) | (with_reducible refine below_drewN ?_ _) | (with_reducible refine Below.drew ?_) | (with_reducible refine Below.alloc ?_ ?_ _) | (with_reducible refine Below.setCell ?_ ?_ _) | (with_reducible refine Below.trans ?_ (Below.mono (by assumption) ?_)) | (with_reducible exact Nat.le_refl _) | (with_reducible assumption) | omega | (simp; omega) | (simp; done)))⟩

set_option maxHeartbeats 2000000 in
/-- impl.validPolyAndElement. -/
theorem vpe_yes (q a : Int) (v : Value) (l : List Int) (w : World) (h : isSz q = true) (hv : Sl w v l) (hg : good q l = true) (ha : inE q a = true) :
    Calls Tryz.prog 97 #[.int .i64 q, v, .int .i64 a] w fun e w' => ∃ g, e = .returned (.tuple #[polyE q (.slice (some ⟨g, 0, none⟩) l.length l.length), elE q a, .bool true]) ∧ w.heap.size ≤ g ∧ Blk w' g l.length ∧ Els w' g q (fun i => l.getD i 0) l.length ∧ Below w.heap.size w w' := by
  have HP := Lib.hid (fun w' (hb : Below w.heap.size w w') => validPoly_yes q v l w' h (hv.below hb (Nat.le_refl _)) hg)
  have HE := Lib.hid (fun w => elementOf_yes q a w ha)
  clear h hv hg ha
  generalize (fun i => l.getD i 0) = f at *
  generalize l.length = n at *
  go_enter Tryz.func97, Tryz.ntmps97
  go_wp2_with fail
  refine (HP.out _ (by (repeat' (first | (with_reducible assumption) | (with_reducible exact Below.refl _ _) | (with_reducible refine below_drewN ?_ _) | (with_reducible refine Below.drew ?_) | (with_reducible refine Below.alloc ?_ ?_ _) | (with_reducible refine Below.setCell ?_ ?_ _) | (with_reducible refine Below.trans ?_ (Below.mono (by assumption) ?_)) | (with_reducible exact Nat.le_refl _) | (with_reducible assumption) | omega | (simp; omega) | (simp; done))))).mono ?_
  rintro e w1 ⟨g, rfl, hgg, hk1, he1, hb1⟩
  simp at hgg
  have HK1 := Lib.hid hk1; clear hk1
  have HE1 := Lib.hid he1; clear he1
  have hgl := HK1.out.lt
  obtain ⟨hc1, hf1⟩ := bcell hb1; have hz1 := hb1.size; (try simp at hz1); have HB1 := Lib.hid hb1; clear hb1
  have l1 : w.heap.size < w1.heap.size := by omega
  have l1' : w.heap.size + 1 < w1.heap.size := by omega
  go_wp2_with fail
  refine (HE.out _).mono ?_
  rintro e w2 ⟨rfl, hb2⟩
  obtain ⟨hc2, hf2⟩ := bcell hb2; have hz2 := hb2.size; (try simp at hz2); have HB2 := Lib.hid hb2; clear hb2
  have l2 : w.heap.size < w2.heap.size := by omega
  have l2' : w.heap.size + 1 < w2.heap.size := by omega
  have l3 : w1.heap.size < w2.heap.size := by omega
  go_wp2_with fail
  go_region
  all_goals
    go_wp2_with fail
    have hb1 := HB1.out
    have hb2 := HB2.out
    have hbw : Below (w.heap.size + 2) ((w.alloc pzblk).alloc zblk) w2 := by (repeat' (first | (with_reducible assumption) | (with_reducible exact Below.refl _ _) | (with_reducible refine below_drewN ?_ _) | (with_reducible refine Below.drew ?_) | (with_reducible refine Below.alloc ?_ ?_ _) | (with_reducible refine Below.setCell ?_ ?_ _) | (with_reducible refine Below.trans ?_ (Below.mono (by assumption) ?_)) | (with_reducible exact Nat.le_refl _) | (with_reducible assumption) | omega | (simp; omega) | (simp; done)))
    have q0 : w2.heap[w.heap.size]? = some pzblk := (hbw.block _ (by omega)).trans ((Below.heap_alloc _ _ _ (by simp)).trans (heap_alloc_new w _))
    have q1 : w2.heap[w.heap.size + 1]? = some zblk := (hbw.block _ (by omega)).trans (by have := heap_alloc_new (w.alloc pzblk) zblk; simpa using this)
    obtain ⟨s0, s1, s2, s3, sf, sl⟩ := cells4 q0
    obtain ⟨t0, t1, t2, t3, t4, t5, t6, tf, tl⟩ := seven q1
    clear q0 q1
    have hgl2 : g < w2.heap.size := by omega
    refine bodyPost_ret (v := .tuple #[polyE q (.slice (some ⟨g, 0, none⟩) n n), elE q a, .bool true]) (by simp [results, Tryz.results97, go_sem, s0, s1, s2, s3, t0, t1, t2, t3, t4, t5, t6, l2, l2']) rfl ⟨g, rfl, by omega, ?_, ?_, ?_⟩
    · refine Blk.same (Blk.below HK1.out (B := w1.heap.size) (w' := w2) (((Below.refl _ _).alloc (Nat.le_refl _) _).trans (hb2.mono (by simp))) hgl) ?_
      (repeat' (first | (with_reducible rfl) | omega | (with_reducible refine (heap_setCell_other _ _ _ _ ?_).trans ?_) | (with_reducible refine (Below.heap_alloc _ _ _ ?_).trans ?_) | (with_reducible refine (drew_heap _ _).trans ?_) | (simp; omega)))
    · refine Els.same (Els.below HE1.out (B := w1.heap.size) (w' := w2) (((Below.refl _ _).alloc (Nat.le_refl _) _).trans (hb2.mono (by simp))) hgl) ?_
      (repeat' (first | (with_reducible rfl) | omega | (with_reducible refine (heap_setCell_other _ _ _ _ ?_).trans ?_) | (with_reducible refine (Below.heap_alloc _ _ _ ?_).trans ?_) | (with_reducible refine (drew_heap _ _).trans ?_) | (simp; omega)))
    · (repeat' (first | (with_reducible assumption) | (with_reducible exact Below.refl _ _) | (with_reducible refine below_drewN ?_ _) | (with_reducible refine Below.drew ?_) | (with_reducible refine Below.alloc ?_ ?_ _) | (with_reducible refine Below.setCell ?_ ?_ _) | (with_reducible refine Below.trans ?_ (Below.mono (by assumption) ?_)) | (with_reducible exact Nat.le_refl _) | (with_reducible assumption) | omega | (simp; omega) | (simp; done)))

set_option maxHeartbeats 2000000 in
theorem vpe_no1 (q a : Int) (v : Value) (l : List Int) (w : World) (hv : Sl w v l) (hl : l.length ≤ 1048576) (hg : (isSz q && good q l) = false) (ha : inE q a = true) :
    Calls Tryz.prog 97 #[.int .i64 q, v, .int .i64 a] w fun e w' => e = .returned (.tuple #[polyZ, elZ, .bool false]) ∧ Below w.heap.size w w' := by
  have HP := Lib.hid (fun w' (hb : Below w.heap.size w w') => validPoly_no q v l w' (hv.below hb (Nat.le_refl _)) hl hg)
  have HE := Lib.hid (fun w => elementOf_yes q a w ha)
  clear hv hl hg ha
  go_enter Tryz.func97, Tryz.ntmps97
  go_wp2_with fail
  refine (HP.out _ (by (repeat' (first | (with_reducible assumption) | (with_reducible exact Below.refl _ _) | (with_reducible refine below_drewN ?_ _) | (with_reducible refine Below.drew ?_) | (with_reducible refine Below.alloc ?_ ?_ _) | (with_reducible refine Below.setCell ?_ ?_ _) | (with_reducible refine Below.trans ?_ (Below.mono (by assumption) ?_)) | (with_reducible exact Nat.le_refl _) | (with_reducible assumption) | omega | (simp; omega) | (simp; done))))).mono ?_
  rintro e w1 ⟨rfl, hb1⟩
  obtain ⟨hc1, hf1⟩ := bcell hb1; have hz1 := hb1.size; (try simp at hz1); have HB1 := Lib.hid hb1; clear hb1
  have l1 : w.heap.size < w1.heap.size := by omega
  have l1' : w.heap.size + 1 < w1.heap.size := by omega
  go_wp2_with fail
  refine (HE.out _).mono ?_
  rintro e w2 ⟨rfl, hb2⟩
  obtain ⟨hc2, hf2⟩ := bcell hb2; have hz2 := hb2.size; (try simp at hz2); have HB2 := Lib.hid hb2; clear hb2
  have l2 : w.heap.size < w2.heap.size := by omega
  have l2' : w.heap.size + 1 < w2.heap.size := by omega
  have l3 : w1.heap.size < w2.heap.size := by omega
  go_wp2_with fail
  have hb1 := HB1.out
  have hb2 := HB2.out
  have hbw : Below (w.heap.size + 2) ((w.alloc pzblk).alloc zblk) w2 := by (repeat' (first | (with_reducible assumption) | (with_reducible exact Below.refl _ _) | (with_reducible refine below_drewN ?_ _) | (with_reducible refine Below.drew ?_) | (with_reducible refine Below.alloc ?_ ?_ _) | (with_reducible refine Below.setCell ?_ ?_ _) | (with_reducible refine Below.trans ?_ (Below.mono (by assumption) ?_)) | (with_reducible exact Nat.le_refl _) | (with_reducible assumption) | omega | (simp; omega) | (simp; done)))
  have q0 : w2.heap[w.heap.size]? = some pzblk := (hbw.block _ (by omega)).trans ((Below.heap_alloc _ _ _ (by simp)).trans (heap_alloc_new w _))
  have q1 : w2.heap[w.heap.size + 1]? = some zblk := (hbw.block _ (by omega)).trans (by have := heap_alloc_new (w.alloc pzblk) zblk; simpa using this)
  obtain ⟨s0, s1, s2, s3, sf, sl⟩ := cells4 q0
  obtain ⟨t0, t1, t2, t3, t4, t5, t6, tf, tl⟩ := seven q1
  clear q0 q1
  refine bodyPost_ret (v := .tuple #[polyZ, elZ, .bool false]) (by simp [results, Tryz.results97, go_sem, s0, s1, s2, s3, t0, t1, t2, t3, t4, t5, t6, l2, l2']) rfl ⟨rfl, ?_⟩
  (repeat' (first | (with_reducible assumption) | (with_reducible exact Below.refl _ _) | (with_reducible refine below_drewN ?_ _) | (with_reducible refine Below.drew ?_) | (with_reducible refine Below.alloc ?_ ?_ _) | (with_reducible refine Below.setCell ?_ ?_ _) | (with_reducible refine Below.trans ?_ (Below.mono (by assumption) ?_)) | (with_reducible exact Nat.le_refl _) | (with_reducible assumption) | omega | (simp; omega) | (simp; done)))

set_option maxHeartbeats 2000000 in
theorem vpe_no2 (q a : Int) (v : Value) (l : List Int) (w : World) (hv : Sl w v l) (hl : l.length ≤ 1048576) (hg : (isSz q && good q l) = false) (ha : inE q a = false) :
    Calls Tryz.prog 97 #[.int .i64 q, v, .int .i64 a] w fun e w' => e = .returned (.tuple #[polyZ, elZ, .bool false]) ∧ Below w.heap.size w w' := by
  have HP := Lib.hid (fun w' (hb : Below w.heap.size w w') => validPoly_no q v l w' (hv.below hb (Nat.le_refl _)) hl hg)
  have HE := Lib.hid (fun w => elementOf_no q a w ha)
  clear hv hl hg ha
  go_enter Tryz.func97, Tryz.ntmps97
  go_wp2_with fail
  refine (HP.out _ (by (repeat' (first | (with_reducible assumption) | (with_reducible exact Below.refl _ _) | (with_reducible refine below_drewN ?_ _) | (with_reducible refine Below.drew ?_) | (with_reducible refine Below.alloc ?_ ?_ _) | (with_reducible refine Below.setCell ?_ ?_ _) | (with_reducible refine Below.trans ?_ (Below.mono (by assumption) ?_)) | (with_reducible exact Nat.le_refl _) | (with_reducible assumption) | omega | (simp; omega) | (simp; done))))).mono ?_
  rintro e w1 ⟨rfl, hb1⟩
  obtain ⟨hc1, hf1⟩ := bcell hb1; have hz1 := hb1.size; (try simp at hz1); have HB1 := Lib.hid hb1; clear hb1
  have l1 : w.heap.size < w1.heap.size := by omega
  have l1' : w.heap.size + 1 < w1.heap.size := by omega
  go_wp2_with fail
  refine (HE.out _).mono ?_
  rintro e w2 ⟨rfl, hb2⟩
  obtain ⟨hc2, hf2⟩ := bcell hb2; have hz2 := hb2.size; (try simp at hz2); have HB2 := Lib.hid hb2; clear hb2
  have l2 : w.heap.size < w2.heap.size := by omega
  have l2' : w.heap.size + 1 < w2.heap.size := by omega
  have l3 : w1.heap.size < w2.heap.size := by omega
  go_wp2_with fail
  have hb1 := HB1.out
  have hb2 := HB2.out
  have hbw : Below (w.heap.size + 2) ((w.alloc pzblk).alloc zblk) w2 := by (repeat' (first | (with_reducible assumption) | (with_reducible exact Below.refl _ _) | (with_reducible refine below_drewN ?_ _) | (with_reducible refine Below.drew ?_) | (with_reducible refine Below.alloc ?_ ?_ _) | (with_reducible refine Below.setCell ?_ ?_ _) | (with_reducible refine Below.trans ?_ (Below.mono (by assumption) ?_)) | (with_reducible exact Nat.le_refl _) | (with_reducible assumption) | omega | (simp; omega) | (simp; done)))
  have q0 : w2.heap[w.heap.size]? = some pzblk := (hbw.block _ (by omega)).trans ((Below.heap_alloc _ _ _ (by simp)).trans (heap_alloc_new w _))
  have q1 : w2.heap[w.heap.size + 1]? = some zblk := (hbw.block _ (by omega)).trans (by have := heap_alloc_new (w.alloc pzblk) zblk; simpa using this)
  obtain ⟨s0, s1, s2, s3, sf, sl⟩ := cells4 q0
  obtain ⟨t0, t1, t2, t3, t4, t5, t6, tf, tl⟩ := seven q1
  clear q0 q1
  refine bodyPost_ret (v := .tuple #[polyZ, elZ, .bool false]) (by simp [results, Tryz.results97, go_sem, s0, s1, s2, s3, t0, t1, t2, t3, t4, t5, t6, l2, l2']) rfl ⟨rfl, ?_⟩
  (repeat' (first | (with_reducible assumption) | (with_reducible exact Below.refl _ _) | (with_reducible refine below_drewN ?_ _) | (with_reducible refine Below.drew ?_) | (with_reducible refine Below.alloc ?_ ?_ _) | (with_reducible refine Below.setCell ?_ ?_ _) | (with_reducible refine Below.trans ?_ (Below.mono (by assumption) ?_)) | (with_reducible exact Nat.le_refl _) | (with_reducible assumption) | omega | (simp; omega) | (simp; done)))

set_option maxHeartbeats 2000000 in
theorem vpe_no3 (q a : Int) (v : Value) (l : List Int) (w : World) (hv : Sl w v l) (_hl : l.length ≤ 1048576) (h : isSz q = true) (hg : good q l = true) (ha : inE q a = false) :
    Calls Tryz.prog 97 #[.int .i64 q, v, .int .i64 a] w fun e w' => e = .returned (.tuple #[polyZ, elZ, .bool false]) ∧ Below w.heap.size w w' := by
  have HP := Lib.hid (fun w' (hb : Below w.heap.size w w') => validPoly_yes q v l w' h (hv.below hb (Nat.le_refl _)) hg)
  have HE := Lib.hid (fun w => elementOf_no q a w ha)
  clear hv hg ha h
  generalize (fun i => l.getD i 0) = f at *
  generalize l.length = n at *
  go_enter Tryz.func97, Tryz.ntmps97
  go_wp2_with fail
  refine (HP.out _ (by (repeat' (first | (with_reducible assumption) | (with_reducible exact Below.refl _ _) | (with_reducible refine below_drewN ?_ _) | (with_reducible refine Below.drew ?_) | (with_reducible refine Below.alloc ?_ ?_ _) | (with_reducible refine Below.setCell ?_ ?_ _) | (with_reducible refine Below.trans ?_ (Below.mono (by assumption) ?_)) | (with_reducible exact Nat.le_refl _) | (with_reducible assumption) | omega | (simp; omega) | (simp; done))))).mono ?_
  rintro e w1 ⟨g, rfl, _, _, _, hb1⟩
  obtain ⟨hc1, hf1⟩ := bcell hb1; have hz1 := hb1.size; (try simp at hz1); have HB1 := Lib.hid hb1; clear hb1
  have l1 : w.heap.size < w1.heap.size := by omega
  have l1' : w.heap.size + 1 < w1.heap.size := by omega
  go_wp2_with fail
  refine (HE.out _).mono ?_
  rintro e w2 ⟨rfl, hb2⟩
  obtain ⟨hc2, hf2⟩ := bcell hb2; have hz2 := hb2.size; (try simp at hz2); have HB2 := Lib.hid hb2; clear hb2
  have l2 : w.heap.size < w2.heap.size := by omega
  have l2' : w.heap.size + 1 < w2.heap.size := by omega
  have l3 : w1.heap.size < w2.heap.size := by omega
  go_wp2_with fail
  have hb1 := HB1.out
  have hb2 := HB2.out
  have hbw : Below (w.heap.size + 2) ((w.alloc pzblk).alloc zblk) w2 := by (repeat' (first | (with_reducible assumption) | (with_reducible exact Below.refl _ _) | (with_reducible refine below_drewN ?_ _) | (with_reducible refine Below.drew ?_) | (with_reducible refine Below.alloc ?_ ?_ _) | (with_reducible refine Below.setCell ?_ ?_ _) | (with_reducible refine Below.trans ?_ (Below.mono (by assumption) ?_)) | (with_reducible exact Nat.le_refl _) | (with_reducible assumption) | omega | (simp; omega) | (simp; done)))
  have q0 : w2.heap[w.heap.size]? = some pzblk := (hbw.block _ (by omega)).trans ((Below.heap_alloc _ _ _ (by simp)).trans (heap_alloc_new w _))
  have q1 : w2.heap[w.heap.size + 1]? = some zblk := (hbw.block _ (by omega)).trans (by have := heap_alloc_new (w.alloc pzblk) zblk; simpa using this)
  obtain ⟨s0, s1, s2, s3, sf, sl⟩ := cells4 q0
  obtain ⟨t0, t1, t2, t3, t4, t5, t6, tf, tl⟩ := seven q1
  clear q0 q1
  refine bodyPost_ret (v := .tuple #[polyZ, elZ, .bool false]) (by simp [results, Tryz.results97, go_sem, s0, s1, s2, s3, t0, t1, t2, t3, t4, t5, t6, l2, l2']) rfl ⟨rfl, ?_⟩
  (repeat' (first | (with_reducible assumption) | (with_reducible exact Below.refl _ _) | (with_reducible refine below_drewN ?_ _) | (with_reducible refine Below.drew ?_) | (with_reducible refine Below.alloc ?_ ?_ _) | (with_reducible refine Below.setCell ?_ ?_ _) | (with_reducible refine Below.trans ?_ (Below.mono (by assumption) ?_)) | (with_reducible exact Nat.le_refl _) | (with_reducible assumption) | omega | (simp; omega) | (simp; done)))
theorem vpe_no (q a : Int) (v : Value) (l : List Int) (w : World) (hv : Sl w v l) (hl : l.length ≤ 1048576) (hn : ((isSz q && good q l) && inE q a) = false) :
    Calls Tryz.prog 97 #[.int .i64 q, v, .int .i64 a] w fun e w' => e = .returned (.tuple #[polyZ, elZ, .bool false]) ∧ Below w.heap.size w w' := by
  cases hg : isSz q && good q l with
  | false =>
    cases ha : inE q a with
    | true => exact vpe_no1 q a v l w hv hl hg ha
    | false => exact vpe_no2 q a v l w hv hl hg ha
  | true =>
    rw [hg] at hn
    simp only [Bool.and_eq_true] at hg
    exact vpe_no3 q a v l w hv hl hg.1 hg.2 hn
set_option maxHeartbeats 2000000 in
/-- impl.validPolys. -/
theorem validPolys_yes (q : Int) (v1 v2 : Value) (l1 l2 : List Int) (w : World) (h : isSz q = true) (hv1 : Sl w v1 l1) (hv2 : Sl w v2 l2) (hg1 : good q l1 = true) (hg2 : good q l2 = true) :
    Calls Tryz.prog 118 #[.int .i64 q, v1, v2] w fun e w' => ∃ g1 g2, e = .returned (.tuple #[polyE q (.slice (some ⟨g1, 0, none⟩) l1.length l1.length), polyE q (.slice (some ⟨g2, 0, none⟩) l2.length l2.length), .bool true]) ∧ g1 < w'.heap.size ∧ g2 < w'.heap.size ∧ Els w' g1 q (fun i => l1.getD i 0) l1.length ∧ Els w' g2 q (fun i => l2.getD i 0) l2.length ∧ Below w.heap.size w w' := by
  have HP1 := Lib.hid (fun w' (hb : Below w.heap.size w w') => validPoly_yes q v1 l1 w' h (hv1.below hb (Nat.le_refl _)) hg1)
  have HP2 := Lib.hid (fun w' (hb : Below w.heap.size w w') => validPoly_yes q v2 l2 w' h (hv2.below hb (Nat.le_refl _)) hg2)
  clear h hv1 hv2 hg1 hg2
  generalize (fun i => l1.getD i 0) = f1 at *
  generalize (fun i => l2.getD i 0) = f2 at *
  generalize l1.length = n1 at *
  generalize l2.length = n2 at *
  go_enter Tryz.func118, Tryz.ntmps118
  go_wp2_with fail
  refine (HP1.out _ (by (repeat' (first | (with_reducible assumption) | (with_reducible exact Below.refl _ _) | (with_reducible refine below_drewN ?_ _) | (with_reducible refine Below.drew ?_) | (with_reducible refine Below.alloc ?_ ?_ _) | (with_reducible refine Below.setCell ?_ ?_ _) | (with_reducible refine Below.trans ?_ (Below.mono (by assumption) ?_)) | (with_reducible exact Nat.le_refl _) | (with_reducible assumption) | omega | (simp; omega) | (simp; done))))).mono ?_
  rintro e w1 ⟨g1, rfl, hgg1, hk1, he1, hb1⟩
  simp at hgg1
  have hgl1 := hk1.lt
  have HE1 := Lib.hid he1; clear he1 hk1
  obtain ⟨hc1, hf1⟩ := bcell hb1; have hz1 := hb1.size; (try simp at hz1); have HB1 := Lib.hid hb1; clear hb1
  have l1 : w.heap.size < w1.heap.size := by omega
  have l1' : w.heap.size + 1 < w1.heap.size := by omega
  go_wp2_with fail
  refine (HP2.out _ (by have hb1 := HB1.out; (repeat' (first | (with_reducible assumption) | (with_reducible exact Below.refl _ _) | (with_reducible refine below_drewN ?_ _) | (with_reducible refine Below.drew ?_) | (with_reducible refine Below.alloc ?_ ?_ _) | (with_reducible refine Below.setCell ?_ ?_ _) | (with_reducible refine Below.trans ?_ (Below.mono (by assumption) ?_)) | (with_reducible exact Nat.le_refl _) | (with_reducible assumption) | omega | (simp; omega) | (simp; done))))).mono ?_
  rintro e w2 ⟨g2, rfl, hgg2, hk2, he2, hb2⟩
  simp at hgg2
  have hgl2 := hk2.lt
  have HE2 := Lib.hid he2; clear he2 hk2
  obtain ⟨hc2, hf2⟩ := bcell hb2; have hz2 := hb2.size; (try simp at hz2); have HB2 := Lib.hid hb2; clear hb2
  have l2 : w.heap.size < w2.heap.size := by omega
  have l2' : w.heap.size + 1 < w2.heap.size := by omega
  have l3 : w1.heap.size < w2.heap.size := by omega
  go_wp2_with fail
  go_region
  all_goals
    go_wp2_with fail
    have hb1 := HB1.out
    have hb2 := HB2.out
    have hbw : Below (w.heap.size + 2) ((w.alloc pzblk).alloc pzblk) w2 := by (repeat' (first | (with_reducible assumption) | (with_reducible exact Below.refl _ _) | (with_reducible refine below_drewN ?_ _) | (with_reducible refine Below.drew ?_) | (with_reducible refine Below.alloc ?_ ?_ _) | (with_reducible refine Below.setCell ?_ ?_ _) | (with_reducible refine Below.trans ?_ (Below.mono (by assumption) ?_)) | (with_reducible exact Nat.le_refl _) | (with_reducible assumption) | omega | (simp; omega) | (simp; done)))
    obtain ⟨s0, s1, s2, s3, sf, sl⟩ := cells4 ((hbw.block _ (by omega)).trans (two w pzblk pzblk).1)
    obtain ⟨t0, t1, t2, t3, tf, tl⟩ := cells4 ((hbw.block _ (by omega)).trans (two w pzblk pzblk).2)
    have hbw12 : Below w1.heap.size w1 w2 := ((Below.refl _ _).alloc (Nat.le_refl _) _).trans (hb2.mono (by simp))
    refine bodyPost_ret (v := .tuple #[polyE q (.slice (some ⟨g1, 0, none⟩) n1 n1), polyE q (.slice (some ⟨g2, 0, none⟩) n2 n2), .bool true]) (by simp [results, Tryz.results118, go_sem, s0, s1, s2, s3, t0, t1, t2, t3, l2, l2']) rfl ⟨g1, g2, rfl, by simp; omega, by simp; omega, ?_, ?_, ?_⟩
    · refine Els.same (Els.below HE1.out hbw12 hgl1) ?_
      (repeat' (first | (with_reducible rfl) | omega | (with_reducible refine (heap_setCell_other _ _ _ _ ?_).trans ?_) | (with_reducible refine (Below.heap_alloc _ _ _ ?_).trans ?_) | (with_reducible refine (drew_heap _ _).trans ?_) | (simp; omega)))
    · refine Els.same HE2.out ?_
      (repeat' (first | (with_reducible rfl) | omega | (with_reducible refine (heap_setCell_other _ _ _ _ ?_).trans ?_) | (with_reducible refine (Below.heap_alloc _ _ _ ?_).trans ?_) | (with_reducible refine (drew_heap _ _).trans ?_) | (simp; omega)))
    · (repeat' (first | (with_reducible assumption) | (with_reducible exact Below.refl _ _) | (with_reducible refine below_drewN ?_ _) | (with_reducible refine Below.drew ?_) | (with_reducible refine Below.alloc ?_ ?_ _) | (with_reducible refine Below.setCell ?_ ?_ _) | (with_reducible refine Below.trans ?_ (Below.mono (by assumption) ?_)) | (with_reducible exact Nat.le_refl _) | (with_reducible assumption) | omega | (simp; omega) | (simp; done)))
set_option maxHeartbeats 2000000 in
theorem validPolys_no1 (q : Int) (v1 v2 : Value) (l1 l2 : List Int) (w : World) (hv1 : Sl w v1 l1) (hv2 : Sl w v2 l2) (hn1 : (isSz q && good q l1) = false) (hl1 : l1.length ≤ 1048576) (h2 : isSz q = true) (hg2 : good q l2 = true) :
    Calls Tryz.prog 118 #[.int .i64 q, v1, v2] w fun e w' => e = .returned (.tuple #[polyZ, polyZ, .bool false]) ∧ Below w.heap.size w w' := by
  have HP1 := Lib.hid (fun w' (hb : Below w.heap.size w w') => validPoly_no q v1 l1 w' (hv1.below hb (Nat.le_refl _)) hl1 hn1)
  have HP2 := Lib.hid (fun w' (hb : Below w.heap.size w w') => validPoly_yes q v2 l2 w' h2 (hv2.below hb (Nat.le_refl _)) hg2)
  clear hv1 hv2 hn1 hl1 h2 hg2
  go_enter Tryz.func118, Tryz.ntmps118
  go_wp2_with fail
  refine (HP1.out _ (by (repeat' (first | (with_reducible assumption) | (with_reducible exact Below.refl _ _) | (with_reducible refine below_drewN ?_ _) | (with_reducible refine Below.drew ?_) | (with_reducible refine Below.alloc ?_ ?_ _) | (with_reducible refine Below.setCell ?_ ?_ _) | (with_reducible refine Below.trans ?_ (Below.mono (by assumption) ?_)) | (with_reducible exact Nat.le_refl _) | (with_reducible assumption) | omega | (simp; omega) | (simp; done))))).mono ?_
  rintro e w1 ⟨rfl, hb1⟩
  obtain ⟨hc1, hf1⟩ := bcell hb1; have hz1 := hb1.size; (try simp at hz1); have HB1 := Lib.hid hb1; clear hb1
  have l1 : w.heap.size < w1.heap.size := by omega
  have l1' : w.heap.size + 1 < w1.heap.size := by omega
  go_wp2_with fail
  refine (HP2.out _ (by have hb1 := HB1.out; (repeat' (first | (with_reducible assumption) | (with_reducible exact Below.refl _ _) | (with_reducible refine below_drewN ?_ _) | (with_reducible refine Below.drew ?_) | (with_reducible refine Below.alloc ?_ ?_ _) | (with_reducible refine Below.setCell ?_ ?_ _) | (with_reducible refine Below.trans ?_ (Below.mono (by assumption) ?_)) | (with_reducible exact Nat.le_refl _) | (with_reducible assumption) | omega | (simp; omega) | (simp; done))))).mono ?_
  rintro e w2 ⟨g2, rfl, hgg2, hk2, _, hb2⟩
  have hgl2 := hk2.lt
  clear hk2 hgg2
  obtain ⟨hc2, hf2⟩ := bcell hb2; have hz2 := hb2.size; (try simp at hz2); have HB2 := Lib.hid hb2; clear hb2
  have l2 : w.heap.size < w2.heap.size := by omega
  have l2' : w.heap.size + 1 < w2.heap.size := by omega
  have l3 : w1.heap.size < w2.heap.size := by omega
  go_wp2_with fail
  have hb1 := HB1.out
  have hb2 := HB2.out
  have hbw : Below (w.heap.size + 2) ((w.alloc pzblk).alloc pzblk) w2 := by (repeat' (first | (with_reducible assumption) | (with_reducible exact Below.refl _ _) | (with_reducible refine below_drewN ?_ _) | (with_reducible refine Below.drew ?_) | (with_reducible refine Below.alloc ?_ ?_ _) | (with_reducible refine Below.setCell ?_ ?_ _) | (with_reducible refine Below.trans ?_ (Below.mono (by assumption) ?_)) | (with_reducible exact Nat.le_refl _) | (with_reducible assumption) | omega | (simp; omega) | (simp; done)))
  obtain ⟨s0, s1, s2, s3, sf, sl⟩ := cells4 ((hbw.block _ (by omega)).trans (two w pzblk pzblk).1)
  obtain ⟨t0, t1, t2, t3, tf, tl⟩ := cells4 ((hbw.block _ (by omega)).trans (two w pzblk pzblk).2)
  refine bodyPost_ret (v := .tuple #[polyZ, polyZ, .bool false]) (by simp [results, Tryz.results118, go_sem, s0, s1, s2, s3, t0, t1, t2, t3, l2, l2']) rfl ⟨rfl, ?_⟩
  (repeat' (first | (with_reducible assumption) | (with_reducible exact Below.refl _ _) | (with_reducible refine below_drewN ?_ _) | (with_reducible refine Below.drew ?_) | (with_reducible refine Below.alloc ?_ ?_ _) | (with_reducible refine Below.setCell ?_ ?_ _) | (with_reducible refine Below.trans ?_ (Below.mono (by assumption) ?_)) | (with_reducible exact Nat.le_refl _) | (with_reducible assumption) | omega | (simp; omega) | (simp; done)))
set_option maxHeartbeats 2000000 in
theorem validPolys_no2 (q : Int) (v1 v2 : Value) (l1 l2 : List Int) (w : World) (hv1 : Sl w v1 l1) (hv2 : Sl w v2 l2) (hn1 : (isSz q && good q l1) = false) (hl1 : l1.length ≤ 1048576) (hn2 : (isSz q && good q l2) = false) (hl2 : l2.length ≤ 1048576) :
    Calls Tryz.prog 118 #[.int .i64 q, v1, v2] w fun e w' => e = .returned (.tuple #[polyZ, polyZ, .bool false]) ∧ Below w.heap.size w w' := by
  have HP1 := Lib.hid (fun w' (hb : Below w.heap.size w w') => validPoly_no q v1 l1 w' (hv1.below hb (Nat.le_refl _)) hl1 hn1)
  have HP2 := Lib.hid (fun w' (hb : Below w.heap.size w w') => validPoly_no q v2 l2 w' (hv2.below hb (Nat.le_refl _)) hl2 hn2)
  clear hv1 hv2 hn1 hl1 hn2 hl2
  go_enter Tryz.func118, Tryz.ntmps118
  go_wp2_with fail
  refine (HP1.out _ (by (repeat' (first | (with_reducible assumption) | (with_reducible exact Below.refl _ _) | (with_reducible refine below_drewN ?_ _) | (with_reducible refine Below.drew ?_) | (with_reducible refine Below.alloc ?_ ?_ _) | (with_reducible refine Below.setCell ?_ ?_ _) | (with_reducible refine Below.trans ?_ (Below.mono (by assumption) ?_)) | (with_reducible exact Nat.le_refl _) | (with_reducible assumption) | omega | (simp; omega) | (simp; done))))).mono ?_
  rintro e w1 ⟨rfl, hb1⟩
  obtain ⟨hc1, hf1⟩ := bcell hb1; have hz1 := hb1.size; (try simp at hz1); have HB1 := Lib.hid hb1; clear hb1
  have l1 : w.heap.size < w1.heap.size := by omega
  have l1' : w.heap.size + 1 < w1.heap.size := by omega
  go_wp2_with fail
  refine (HP2.out _ (by have hb1 := HB1.out; (repeat' (first | (with_reducible assumption) | (with_reducible exact Below.refl _ _) | (with_reducible refine below_drewN ?_ _) | (with_reducible refine Below.drew ?_) | (with_reducible refine Below.alloc ?_ ?_ _) | (with_reducible refine Below.setCell ?_ ?_ _) | (with_reducible refine Below.trans ?_ (Below.mono (by assumption) ?_)) | (with_reducible exact Nat.le_refl _) | (with_reducible assumption) | omega | (simp; omega) | (simp; done))))).mono ?_
  rintro e w2 ⟨rfl, hb2⟩
  obtain ⟨hc2, hf2⟩ := bcell hb2; have hz2 := hb2.size; (try simp at hz2); have HB2 := Lib.hid hb2; clear hb2
  have l2 : w.heap.size < w2.heap.size := by omega
  have l2' : w.heap.size + 1 < w2.heap.size := by omega
  have l3 : w1.heap.size < w2.heap.size := by omega
  go_wp2_with fail
  have hb1 := HB1.out
  have hb2 := HB2.out
  have hbw : Below (w.heap.size + 2) ((w.alloc pzblk).alloc pzblk) w2 := by (repeat' (first | (with_reducible assumption) | (with_reducible exact Below.refl _ _) | (with_reducible refine below_drewN ?_ _) | (with_reducible refine Below.drew ?_) | (with_reducible refine Below.alloc ?_ ?_ _) | (with_reducible refine Below.setCell ?_ ?_ _) | (with_reducible refine Below.trans ?_ (Below.mono (by assumption) ?_)) | (with_reducible exact Nat.le_refl _) | (with_reducible assumption) | omega | (simp; omega) | (simp; done)))
  obtain ⟨s0, s1, s2, s3, sf, sl⟩ := cells4 ((hbw.block _ (by omega)).trans (two w pzblk pzblk).1)
  obtain ⟨t0, t1, t2, t3, tf, tl⟩ := cells4 ((hbw.block _ (by omega)).trans (two w pzblk pzblk).2)
  refine bodyPost_ret (v := .tuple #[polyZ, polyZ, .bool false]) (by simp [results, Tryz.results118, go_sem, s0, s1, s2, s3, t0, t1, t2, t3, l2, l2']) rfl ⟨rfl, ?_⟩
  (repeat' (first | (with_reducible assumption) | (with_reducible exact Below.refl _ _) | (with_reducible refine below_drewN ?_ _) | (with_reducible refine Below.drew ?_) | (with_reducible refine Below.alloc ?_ ?_ _) | (with_reducible refine Below.setCell ?_ ?_ _) | (with_reducible refine Below.trans ?_ (Below.mono (by assumption) ?_)) | (with_reducible exact Nat.le_refl _) | (with_reducible assumption) | omega | (simp; omega) | (simp; done)))
set_option maxHeartbeats 2000000 in
theorem validPolys_no3 (q : Int) (v1 v2 : Value) (l1 l2 : List Int) (w : World) (hv1 : Sl w v1 l1) (hv2 : Sl w v2 l2) (h1 : isSz q = true) (hg1 : good q l1 = true) (hn2 : (isSz q && good q l2) = false) (hl2 : l2.length ≤ 1048576) :
    Calls Tryz.prog 118 #[.int .i64 q, v1, v2] w fun e w' => e = .returned (.tuple #[polyZ, polyZ, .bool false]) ∧ Below w.heap.size w w' := by
  have HP1 := Lib.hid (fun w' (hb : Below w.heap.size w w') => validPoly_yes q v1 l1 w' h1 (hv1.below hb (Nat.le_refl _)) hg1)
  have HP2 := Lib.hid (fun w' (hb : Below w.heap.size w w') => validPoly_no q v2 l2 w' (hv2.below hb (Nat.le_refl _)) hl2 hn2)
  clear hv1 hv2 h1 hg1 hn2 hl2
  go_enter Tryz.func118, Tryz.ntmps118
  go_wp2_with fail
  refine (HP1.out _ (by (repeat' (first | (with_reducible assumption) | (with_reducible exact Below.refl _ _) | (with_reducible refine below_drewN ?_ _) | (with_reducible refine Below.drew ?_) | (with_reducible refine Below.alloc ?_ ?_ _) | (with_reducible refine Below.setCell ?_ ?_ _) | (with_reducible refine Below.trans ?_ (Below.mono (by assumption) ?_)) | (with_reducible exact Nat.le_refl _) | (with_reducible assumption) | omega | (simp; omega) | (simp; done))))).mono ?_
  rintro e w1 ⟨g1, rfl, hgg1, hk1, _, hb1⟩
  have hgl1 := hk1.lt
  clear hk1 hgg1
  obtain ⟨hc1, hf1⟩ := bcell hb1; have hz1 := hb1.size; (try simp at hz1); have HB1 := Lib.hid hb1; clear hb1
  have l1 : w.heap.size < w1.heap.size := by omega
  have l1' : w.heap.size + 1 < w1.heap.size := by omega
  go_wp2_with fail
  refine (HP2.out _ (by have hb1 := HB1.out; (repeat' (first | (with_reducible assumption) | (with_reducible exact Below.refl _ _) | (with_reducible refine below_drewN ?_ _) | (with_reducible refine Below.drew ?_) | (with_reducible refine Below.alloc ?_ ?_ _) | (with_reducible refine Below.setCell ?_ ?_ _) | (with_reducible refine Below.trans ?_ (Below.mono (by assumption) ?_)) | (with_reducible exact Nat.le_refl _) | (with_reducible assumption) | omega | (simp; omega) | (simp; done))))).mono ?_
  rintro e w2 ⟨rfl, hb2⟩
  obtain ⟨hc2, hf2⟩ := bcell hb2; have hz2 := hb2.size; (try simp at hz2); have HB2 := Lib.hid hb2; clear hb2
  have l2 : w.heap.size < w2.heap.size := by omega
  have l2' : w.heap.size + 1 < w2.heap.size := by omega
  have l3 : w1.heap.size < w2.heap.size := by omega
  go_wp2_with fail
  have hb1 := HB1.out
  have hb2 := HB2.out
  have hbw : Below (w.heap.size + 2) ((w.alloc pzblk).alloc pzblk) w2 := by (repeat' (first | (with_reducible assumption) | (with_reducible exact Below.refl _ _) | (with_reducible refine below_drewN ?_ _) | (with_reducible refine Below.drew ?_) | (with_reducible refine Below.alloc ?_ ?_ _) | (with_reducible refine Below.setCell ?_ ?_ _) | (with_reducible refine Below.trans ?_ (Below.mono (by assumption) ?_)) | (with_reducible exact Nat.le_refl _) | (with_reducible assumption) | omega | (simp; omega) | (simp; done)))
  obtain ⟨s0, s1, s2, s3, sf, sl⟩ := cells4 ((hbw.block _ (by omega)).trans (two w pzblk pzblk).1)
  obtain ⟨t0, t1, t2, t3, tf, tl⟩ := cells4 ((hbw.block _ (by omega)).trans (two w pzblk pzblk).2)
  refine bodyPost_ret (v := .tuple #[polyZ, polyZ, .bool false]) (by simp [results, Tryz.results118, go_sem, s0, s1, s2, s3, t0, t1, t2, t3, l2, l2']) rfl ⟨rfl, ?_⟩
  (repeat' (first | (with_reducible assumption) | (with_reducible exact Below.refl _ _) | (with_reducible refine below_drewN ?_ _) | (with_reducible refine Below.drew ?_) | (with_reducible refine Below.alloc ?_ ?_ _) | (with_reducible refine Below.setCell ?_ ?_ _) | (with_reducible refine Below.trans ?_ (Below.mono (by assumption) ?_)) | (with_reducible exact Nat.le_refl _) | (with_reducible assumption) | omega | (simp; omega) | (simp; done)))
theorem validPolys_no (q : Int) (v1 v2 : Value) (l1 l2 : List Int) (w : World) (hv1 : Sl w v1 l1) (hv2 : Sl w v2 l2) (hl1 : l1.length ≤ 1048576) (hl2 : l2.length ≤ 1048576) (hn : ((isSz q && good q l1) && (isSz q && good q l2)) = false) :
    Calls Tryz.prog 118 #[.int .i64 q, v1, v2] w fun e w' => e = .returned (.tuple #[polyZ, polyZ, .bool false]) ∧ Below w.heap.size w w' := by
  cases h1 : isSz q && good q l1 with
  | false =>
    cases h2 : isSz q && good q l2 with
    | false => exact validPolys_no2 q v1 v2 l1 l2 w hv1 hv2 h1 hl1 h2 hl2
    | true =>
      simp only [Bool.and_eq_true] at h2
      exact validPolys_no1 q v1 v2 l1 l2 w hv1 hv2 h1 hl1 h2.1 h2.2
  | true =>
    rw [h1] at hn
    simp only [Bool.and_eq_true] at h1
    exact validPolys_no3 q v1 v2 l1 l2 w hv1 hv2 h1.1 h1.2 hn hl2
end Go.Proofs.YtljijnanmpajaaaGreat
