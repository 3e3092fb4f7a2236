/- FirstDesk, IsDesk of both, and the law's own functions on desks, by contracts; the walks of their laws. -/
import Derived.Test.YtapglncgicfjnaaKC
import Derived.Test.YtapglncgicfjnaaKI
import Derived.Test.YtapglncgicfjnaaKJ
namespace Go.Proofs.Ytapglncgicfjnaa
open Go.RowKit
/-- A desk. -/
abbrev dsk (q : Int) (v : Value) : Value := .agg #[.int .i64 q, v]
theorem desk_heap (w : World) (o1 o2 : Obj) : ((w.alloc o1).alloc o2).heap[w.heap.size + 1]? = some o2 := by
  have := heap_alloc_new (w.alloc o1) o2
  simpa using this
set_option maxHeartbeats 1000000 in
theorem spec_FirstDesk (w : World) : Calls Try.prog 8 #[] w fun e w' => ∃ v, e = .returned (dsk 5 v) ∧ Row w' w.heap.size v [0, 0, 0, 1] ∧ Below w.heap.size w w' := by
  go_enter Try.func8, Try.ntmps8
  go_wp2
  (refine bodyPost_ret (by simp [results, Try.results8, go_sem]; try rfl) rfl ?_)
  refine ⟨_, rfl, Row.heap (desk_heap _ _ _) (by omega) rfl (by unfold maxLen; omega), by (repeat' (first | (with_reducible assumption) | (with_reducible exact Below.refl _ _) | (with_reducible refine below_drewN ?_ _) | (with_reducible refine Below.drew ?_) | (with_reducible refine Below.alloc ?_ ?_ _) | (with_reducible refine Below.setCell ?_ ?_ _) | (with_reducible refine Below.trans ?_ (Below.mono (by assumption) ?_)) | (with_reducible exact Nat.le_refl _) | (with_reducible assumption) | omega | (simp; omega) | (simp; done)))⟩
set_option maxHeartbeats 1000000 in
theorem impl_FirstDesk (w : World) : Calls Try.prog 9 #[] w fun e w' => ∃ v, e = .returned (dsk 5 v) ∧ Row w' w.heap.size v [0, 0, 0, 1] ∧ Below w.heap.size w w' := by
  go_enter Try.func9, Try.ntmps9
  go_wp2
  (refine bodyPost_ret (by simp [results, Try.results9, go_sem]; try rfl) rfl ?_)
  refine ⟨_, rfl, Row.heap (desk_heap _ _ _) (by omega) rfl (by unfold maxLen; omega), by (repeat' (first | (with_reducible assumption) | (with_reducible exact Below.refl _ _) | (with_reducible refine below_drewN ?_ _) | (with_reducible refine Below.drew ?_) | (with_reducible refine Below.alloc ?_ ?_ _) | (with_reducible refine Below.setCell ?_ ?_ _) | (with_reducible refine Below.trans ?_ (Below.mono (by assumption) ?_)) | (with_reducible exact Nat.le_refl _) | (with_reducible assumption) | omega | (simp; omega) | (simp; done)))⟩
set_option maxHeartbeats 1000000 in
theorem eqDesk_same (q : Int) (v1 v2 : Value) (l : List Int) (B1 B2 : Nat) (w : World) (h1 : Row w B1 v1 l) (h2 : Row w B2 v2 l) (hl : l.length ≤ 1048576) :
    Calls Try.prog 10 #[dsk q v1, dsk q v2] w fun e w' => e = .returned (.bool true) ∧ Below w.heap.size w w' := by
  have HE := Lib.hid (fun w' (hb : Below w.heap.size w w') => eq_same v1 v2 l B1 B2 w' (h1.below hb) (h2.below hb) hl)
  clear h1 h2 hl
  go_enter Try.func10, Try.ntmps10
  go_wp2_with fail
  refine (HE.out _ (by (repeat' (first | (with_reducible assumption) | (with_reducible exact Below.refl _ _) | (with_reducible refine below_drewN ?_ _) | (with_reducible refine Below.drew ?_) | (with_reducible refine Below.alloc ?_ ?_ _) | (with_reducible refine Below.setCell ?_ ?_ _) | (with_reducible refine Below.trans ?_ (Below.mono (by assumption) ?_)) | (with_reducible exact Nat.le_refl _) | (with_reducible assumption) | omega | (simp; omega) | (simp; done))))).mono ?_
  rintro e w1 ⟨rfl, hb1⟩
  go_wp2
  go_ret
  exact ⟨rfl, by (repeat' (first | (with_reducible assumption) | (with_reducible exact Below.refl _ _) | (with_reducible refine below_drewN ?_ _) | (with_reducible refine Below.drew ?_) | (with_reducible refine Below.alloc ?_ ?_ _) | (with_reducible refine Below.setCell ?_ ?_ _) | (with_reducible refine Below.trans ?_ (Below.mono (by assumption) ?_)) | (with_reducible exact Nat.le_refl _) | (with_reducible assumption) | omega | (simp; omega) | (simp; done)))⟩
set_option maxHeartbeats 1000000 in
theorem markDesk_any (q : Int) (v : Value) (l : List Int) (B : Nat) (k : Int) (w : World) (h : Row w B v l) (hl : l.length ≤ 1048576) (k0 : 0 ≤ k) (k1 : k ≤ 1000) :
    Calls Try.prog 11 #[dsk q v, .int .i64 k] w fun e w' => e = .returned (.int .i64 (k + l.length)) ∧ Row w' B v (mrk k l.length) ∧ ∃ w1, Below w.heap.size w w1 ∧ w1.grownBy w' v.ownBlock := by
  have HM := Lib.hid (fun w' (hb : Below w.heap.size w w') => mark_any v l B k w' (h.below hb) hl k0 k1)
  clear h
  generalize l.length = n at *
  go_enter Try.func11, Try.ntmps11
  go_wp2_with fail
  refine (HM.out _ (by (repeat' (first | (with_reducible assumption) | (with_reducible exact Below.refl _ _) | (with_reducible refine below_drewN ?_ _) | (with_reducible refine Below.drew ?_) | (with_reducible refine Below.alloc ?_ ?_ _) | (with_reducible refine Below.setCell ?_ ?_ _) | (with_reducible refine Below.trans ?_ (Below.mono (by assumption) ?_)) | (with_reducible exact Nat.le_refl _) | (with_reducible assumption) | omega | (simp; omega) | (simp; done))))).mono ?_
  rintro e w1 ⟨rfl, hr, hg⟩
  have HR := Lib.hid hr; clear hr
  have HG := Lib.hid hg; clear hg
  go_wp2
  go_ret
  exact ⟨rfl, HR.out, _, by (repeat' (first | (with_reducible assumption) | (with_reducible exact Below.refl _ _) | (with_reducible refine below_drewN ?_ _) | (with_reducible refine Below.drew ?_) | (with_reducible refine Below.alloc ?_ ?_ _) | (with_reducible refine Below.setCell ?_ ?_ _) | (with_reducible refine Below.trans ?_ (Below.mono (by assumption) ?_)) | (with_reducible exact Nat.le_refl _) | (with_reducible assumption) | omega | (simp; omega) | (simp; done))), HG.out⟩
set_option maxHeartbeats 1000000 in
theorem heldDesk_any (q : Int) (v : Value) (n : Nat) (B : Nat) (k : Int) (w : World) (h : Row w B v (mrk k n)) (hl : n ≤ 1048576) (k0 : 0 ≤ k) (k1 : k ≤ 1000) :
    Calls Try.prog 12 #[dsk q v, .int .i64 k] w fun e w' => e = .returned (.int .i64 (k + n)) ∧ Below w.heap.size w w' := by
  have HM := Lib.hid (fun w' (hb : Below w.heap.size w w') => held_any v n B k w' (h.below hb) hl k0 k1)
  clear h
  have hn : ¬ k + (n : Int) < 0 := by omega
  go_enter Try.func12, Try.ntmps12
  go_wp2_with fail
  refine (HM.out _ (by (repeat' (first | (with_reducible assumption) | (with_reducible exact Below.refl _ _) | (with_reducible refine below_drewN ?_ _) | (with_reducible refine Below.drew ?_) | (with_reducible refine Below.alloc ?_ ?_ _) | (with_reducible refine Below.setCell ?_ ?_ _) | (with_reducible refine Below.trans ?_ (Below.mono (by assumption) ?_)) | (with_reducible exact Nat.le_refl _) | (with_reducible assumption) | omega | (simp; omega) | (simp; done))))).mono ?_
  rintro e w1 ⟨rfl, rfl⟩
  go_wp2
  go_ret
  exact ⟨rfl, by (repeat' (first | (with_reducible assumption) | (with_reducible exact Below.refl _ _) | (with_reducible refine below_drewN ?_ _) | (with_reducible refine Below.drew ?_) | (with_reducible refine Below.alloc ?_ ?_ _) | (with_reducible refine Below.setCell ?_ ?_ _) | (with_reducible refine Below.trans ?_ (Below.mono (by assumption) ?_)) | (with_reducible exact Nat.le_refl _) | (with_reducible assumption) | omega | (simp; omega) | (simp; done)))⟩
set_option maxHeartbeats 4000000 in
/-- laws.FnExactFirstDesk. -/
theorem walk_FnExactFirstDesk (w : World) :
    Calls Try.prog 3 #[] w fun e w' => e = .returned (.bool true) ∧ Below w.heap.size w w' := by
  go_enter Try.func3, Try.ntmps3
  go_wp2_with fail
  refine (spec_FirstDesk _).mono ?_
  rintro e w1 ⟨v1, rfl, hr1, hb1⟩
  obtain ⟨a1, c1, rfl⟩ := hr1.sl.form
  have hz1 := hb1.size
  have HR1 := Lib.hid hr1
  have HB1 := Lib.hid hb1
  clear hr1 hb1
  go_wp2_with fail
  refine (impl_FirstDesk _).mono ?_
  rintro e w2 ⟨v2, rfl, hr2, hb2⟩
  obtain ⟨a2, c2, rfl⟩ := hr2.sl.form
  have HX2 := Lib.hid hb2
  obtain ⟨hc2, hf2⟩ := bcell hb2; have hz2 := hb2.size; (try simp at hz2); have HB2 := Lib.hid hb2; clear hb2
  have hl1 : w1.heap.size < w2.heap.size := by omega
  have HR2 := Lib.hid hr2; clear hr2
  have lt2 := HR2.out.lt
  have HLT := Lib.hid lt2; clear lt2
  go_wp2_with fail
  refine (eqDesk_same 5 _ _ _ _ _ _ (HR2.out.below (by (repeat' (first | (with_reducible assumption) | (with_reducible exact Below.refl _ _) | (with_reducible refine below_drewN ?_ _) | (with_reducible refine Below.drew ?_) | (with_reducible refine Below.alloc ?_ ?_ _) | (with_reducible refine Below.setCell ?_ ?_ _) | (with_reducible refine Below.trans ?_ (Below.mono (by assumption) ?_)) | (with_reducible exact Nat.le_refl _) | (with_reducible assumption) | omega | (simp; omega) | (simp; done))))) ((HR1.out.below (by (repeat' (first | (with_reducible assumption) | (with_reducible exact Below.refl _ _) | (with_reducible refine below_drewN ?_ _) | (with_reducible refine Below.drew ?_) | (with_reducible refine Below.alloc ?_ ?_ _) | (with_reducible refine Below.setCell ?_ ?_ _) | (with_reducible refine Below.trans ?_ (Below.mono (by assumption) ?_)) | (with_reducible exact Nat.le_refl _) | (with_reducible assumption) | omega | (simp; omega) | (simp; done))))).below (by have hb2 := HX2.out; (repeat' (first | (with_reducible assumption) | (with_reducible exact Below.refl _ _) | (with_reducible refine below_drewN ?_ _) | (with_reducible refine Below.drew ?_) | (with_reducible refine Below.alloc ?_ ?_ _) | (with_reducible refine Below.setCell ?_ ?_ _) | (with_reducible refine Below.trans ?_ (Below.mono (by assumption) ?_)) | (with_reducible exact Nat.le_refl _) | (with_reducible assumption) | omega | (simp; omega) | (simp; done))))) (by simp)).mono ?_
  rintro e w3 ⟨rfl, hb3⟩
  have hk3 := HX2.out
  have HR1c := Lib.hid (((HR1.out.below (w' := w1.alloc (.cells #[.int .i64 5, .slice a1 4 c1] 24)) (by (repeat' (first | (with_reducible assumption) | (with_reducible exact Below.refl _ _) | (with_reducible refine below_drewN ?_ _) | (with_reducible refine Below.drew ?_) | (with_reducible refine Below.alloc ?_ ?_ _) | (with_reducible refine Below.setCell ?_ ?_ _) | (with_reducible refine Below.trans ?_ (Below.mono (by assumption) ?_)) | (with_reducible exact Nat.le_refl _) | (with_reducible assumption) | omega | (simp; omega) | (simp; done))))).below hk3).below (w' := w2.alloc (.cells #[.int .i64 5, .slice a2 4 c2] 24)) (by (repeat' (first | (with_reducible assumption) | (with_reducible exact Below.refl _ _) | (with_reducible refine below_drewN ?_ _) | (with_reducible refine Below.drew ?_) | (with_reducible refine Below.alloc ?_ ?_ _) | (with_reducible refine Below.setCell ?_ ?_ _) | (with_reducible refine Below.trans ?_ (Below.mono (by assumption) ?_)) | (with_reducible exact Nat.le_refl _) | (with_reducible assumption) | omega | (simp; omega) | (simp; done)))) |>.below hb3)
  have HR2c := Lib.hid ((HR2.out.below (w' := w2.alloc (.cells #[.int .i64 5, .slice a2 4 c2] 24)) (by (repeat' (first | (with_reducible assumption) | (with_reducible exact Below.refl _ _) | (with_reducible refine below_drewN ?_ _) | (with_reducible refine Below.drew ?_) | (with_reducible refine Below.alloc ?_ ?_ _) | (with_reducible refine Below.setCell ?_ ?_ _) | (with_reducible refine Below.trans ?_ (Below.mono (by assumption) ?_)) | (with_reducible exact Nat.le_refl _) | (with_reducible assumption) | omega | (simp; omega) | (simp; done))))).below hb3)
  have HB3 : Hid (Below w.heap.size w w3) := Lib.hid (by have hb1 := HB1.out; have hb2 := HX2.out; (repeat' (first | (with_reducible assumption) | (with_reducible exact Below.refl _ _) | (with_reducible refine below_drewN ?_ _) | (with_reducible refine Below.drew ?_) | (with_reducible refine Below.alloc ?_ ?_ _) | (with_reducible refine Below.setCell ?_ ?_ _) | (with_reducible refine Below.trans ?_ (Below.mono (by assumption) ?_)) | (with_reducible exact Nat.le_refl _) | (with_reducible assumption) | omega | (simp; omega) | (simp; done))))
  clear hk3
  obtain ⟨hc3, hf3⟩ := bcell hb3; have hz3 := hb3.size; (try simp at hz3); clear hb3
  have hl2 : w1.heap.size < w3.heap.size := by omega
  have hl3 : w2.heap.size < w3.heap.size := by omega
  go_wp2_with fail
  refine (markDesk_any 5 _ _ _ 1 _ HR2c.out (by simp) (by omega) (by omega)).mono ?_
  rintro e w4 ⟨rfl, hr4, wm, hbm, hg⟩
  have hzm := hbm.size
  have hz4 : w3.heap.size ≤ w4.heap.size := Nat.le_trans hzm hg.size
  have hne1 : ∀ g, g < w3.heap.size → (g ≤ w1.heap.size ∨ w2.heap.size ≤ g) → w4.heap[g]? = w3.heap[g]? := fun g h1 h2 => by
    refine (hg.block g (by omega) fun e => ?_).trans (hbm.block g h1)
    have := HLT.out g e.symm
    simp at this
    omega
  have hcA : ∀ o, w4.cell? ⟨w1.heap.size, o, none⟩ = w3.cell? ⟨w1.heap.size, o, none⟩ := fun o => World.cell?_of_block (a := ⟨w1.heap.size, o, none⟩) (hne1 _ hl2 (.inl (Nat.le_refl _)))
  have hcB : ∀ o, w4.cell? ⟨w2.heap.size, o, none⟩ = w3.cell? ⟨w2.heap.size, o, none⟩ := fun o => World.cell?_of_block (a := ⟨w2.heap.size, o, none⟩) (hne1 _ hl3 (.inr (Nat.le_refl _)))
  have HR1d := Lib.hid (HR1c.out.keep (w' := w4) fun g hg' => hne1 g (HR1c.out.lt g hg').2 (by have := HR1.out.lt g hg'; omega))
  have HB4 : Hid (Below w.heap.size w w4) := Lib.hid (Below.grown (HB3.out.trans (hbm.mono HB3.out.size)) hg (by have := HB3.out.size; omega) (fun g e => by have := HLT.out g e; simp at this; omega))
  have HR4 := Lib.hid hr4; clear hr4
  clear hg hbm hne1 hzm wm
  have x1 : w4.cell? ⟨w1.heap.size, 0, none⟩ = some (.int .i64 5) := (hcA _).trans ((hc3 _ _ (by simp; omega)).trans ((World.cell?_alloc_past _ _ _ hl1).trans ((hc2 _ _ (by simp)).trans (by simp))))
  have x2 : w4.cell? ⟨w1.heap.size, 1, none⟩ = some (.slice a1 4 c1) := (hcA _).trans ((hc3 _ _ (by simp; omega)).trans ((World.cell?_alloc_past _ _ _ hl1).trans ((hc2 _ _ (by simp)).trans (by simp))))
  have x3 : w4.cell? ⟨w2.heap.size, 0, none⟩ = some (.int .i64 5) := (hcB _).trans ((hc3 _ _ (by simp)).trans (by simp))
  have x4 : w4.cell? ⟨w2.heap.size, 1, none⟩ = some (.slice a2 4 c2) := (hcB _).trans ((hc3 _ _ (by simp)).trans (by simp))
  have hl4 : w1.heap.size < w4.heap.size := by omega
  have hl5 : w2.heap.size < w4.heap.size := by omega
  clear hcA hcB hc3 hf3 hc2 hf2
  go_wp2_with fail
  refine (heldDesk_any 5 _ _ _ 1 _ HR4.out (by simp) (by omega) (by omega)).mono ?_
  rintro e w5 ⟨rfl, hb5⟩
  have HR4e := Lib.hid (HR4.out.below hb5)
  have HR1e := Lib.hid (HR1d.out.below hb5)
  have HB5 : Hid (Below w.heap.size w w5) := Lib.hid (HB4.out.trans (hb5.mono HB4.out.size))
  have y1 := (hb5.cell (p := ⟨w1.heap.size, 0, none⟩) hl4).trans x1
  have y2 := (hb5.cell (p := ⟨w1.heap.size, 1, none⟩) hl4).trans x2
  have y3 := (hb5.cell (p := ⟨w2.heap.size, 0, none⟩) hl5).trans x3
  have y4 := (hb5.cell (p := ⟨w2.heap.size, 1, none⟩) hl5).trans x4
  have hz5 := hb5.size
  clear x1 x2 x3 x4 hb5
  go_wp2_with fail
  refine (impl_FirstDesk _).mono ?_
  rintro e w6 ⟨v6, rfl, hr6, hb6⟩
  obtain ⟨a6, c6, rfl⟩ := hr6.sl.form
  have HR6 := Lib.hid hr6; clear hr6
  have HR4f := Lib.hid (HR4e.out.below hb6)
  have HR1f := Lib.hid (HR1e.out.below hb6)
  have HB6 : Hid (Below w.heap.size w w6) := Lib.hid (HB5.out.trans (hb6.mono HB5.out.size))
  have hz6 := hb6.size
  have x1 := (hb6.cell (p := ⟨w1.heap.size, 0, none⟩) (show w1.heap.size < w5.heap.size by omega)).trans y1
  have x2 := (hb6.cell (p := ⟨w1.heap.size, 1, none⟩) (show w1.heap.size < w5.heap.size by omega)).trans y2
  have x3 := (hb6.cell (p := ⟨w2.heap.size, 0, none⟩) (show w2.heap.size < w5.heap.size by omega)).trans y3
  have x4 := (hb6.cell (p := ⟨w2.heap.size, 1, none⟩) (show w2.heap.size < w5.heap.size by omega)).trans y4
  have hl6 : w1.heap.size < w6.heap.size := by omega
  have hl7 : w2.heap.size < w6.heap.size := by omega
  clear y1 y2 y3 y4 hb6
  go_wp2_with fail
  refine (eqDesk_same 5 _ _ _ _ _ _ (HR6.out.below (by (repeat' (first | (with_reducible assumption) | (with_reducible exact Below.refl _ _) | (with_reducible refine below_drewN ?_ _) | (with_reducible refine Below.drew ?_) | (with_reducible refine Below.alloc ?_ ?_ _) | (with_reducible refine Below.setCell ?_ ?_ _) | (with_reducible refine Below.trans ?_ (Below.mono (by assumption) ?_)) | (with_reducible exact Nat.le_refl _) | (with_reducible assumption) | omega | (simp; omega) | (simp; done))))) (HR1f.out.below (by (repeat' (first | (with_reducible assumption) | (with_reducible exact Below.refl _ _) | (with_reducible refine below_drewN ?_ _) | (with_reducible refine Below.drew ?_) | (with_reducible refine Below.alloc ?_ ?_ _) | (with_reducible refine Below.setCell ?_ ?_ _) | (with_reducible refine Below.trans ?_ (Below.mono (by assumption) ?_)) | (with_reducible exact Nat.le_refl _) | (with_reducible assumption) | omega | (simp; omega) | (simp; done))))) (by simp)).mono ?_
  rintro e w7 ⟨rfl, hb7⟩
  have HR4g := Lib.hid ((HR4f.out.below (w' := w6.alloc (.cells #[.int .i64 5, .slice a6 4 c6] 24)) (by (repeat' (first | (with_reducible assumption) | (with_reducible exact Below.refl _ _) | (with_reducible refine below_drewN ?_ _) | (with_reducible refine Below.drew ?_) | (with_reducible refine Below.alloc ?_ ?_ _) | (with_reducible refine Below.setCell ?_ ?_ _) | (with_reducible refine Below.trans ?_ (Below.mono (by assumption) ?_)) | (with_reducible exact Nat.le_refl _) | (with_reducible assumption) | omega | (simp; omega) | (simp; done))))).below hb7)
  have HB7 : Hid (Below w.heap.size w w7) := Lib.hid (by have hb6 := HB6.out; have := hb6.size; (repeat' (first | (with_reducible assumption) | (with_reducible exact Below.refl _ _) | (with_reducible refine below_drewN ?_ _) | (with_reducible refine Below.drew ?_) | (with_reducible refine Below.alloc ?_ ?_ _) | (with_reducible refine Below.setCell ?_ ?_ _) | (with_reducible refine Below.trans ?_ (Below.mono (by assumption) ?_)) | (with_reducible exact Nat.le_refl _) | (with_reducible assumption) | omega | (simp; omega) | (simp; done))))
  have hz7 := hb7.size
  (try simp at hz7)
  have y3 : w7.cell? ⟨w2.heap.size, 0, none⟩ = some (.int .i64 5) := (hb7.cell (p := ⟨w2.heap.size, 0, none⟩) (by simp; omega)).trans ((World.cell?_alloc_past _ _ _ hl7).trans x3)
  have y4 : w7.cell? ⟨w2.heap.size, 1, none⟩ = some (.slice a2 4 c2) := (hb7.cell (p := ⟨w2.heap.size, 1, none⟩) (by simp; omega)).trans ((World.cell?_alloc_past _ _ _ hl7).trans x4)
  have hl8 : w2.heap.size < w7.heap.size := by omega
  clear x1 x2 x3 x4 hb7
  go_wp2_with fail
  refine (heldDesk_any 5 _ _ _ 1 _ HR4g.out (by simp) (by omega) (by omega)).mono ?_
  rintro e w8 ⟨rfl, hb8⟩
  have HB8 : Hid (Below w.heap.size w w8) := Lib.hid (HB7.out.trans (hb8.mono HB7.out.size))
  go_wp2
  go_ret
  exact ⟨rfl, HB8.out⟩
end Go.Proofs.Ytapglncgicfjnaa
