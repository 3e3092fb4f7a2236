/- IsDesk of both, by contracts; the walk of its law. -/
import Derived.Test.YtapglncgicfjnaaZH
import Derived.Deep.RegionHeld3
namespace Go.Proofs.Ytapglncgicfjnaa
open Go.RowKit
set_option maxHeartbeats 1000000 in
theorem coGood_any (q : Int) (v : Value) (l : List Int) (w : World) (hv : Sl w v l) (hl : l.length ≤ 1048576) :
    Calls Try.prog 62 #[dsk q v] w fun e w' => e = .returned (.bool (isSz q && good q l)) ∧ Below w.heap.size w w' := by
  have HG := Lib.hid (fun w' (hb : Below w.heap.size w w') => plGood_any q v l w' (hv.below hb (Nat.le_refl _)) hl)
  clear hv hl
  go_enter Try.func62, Try.ntmps62
  go_wp2_with fail
  refine (HG.out _ (by (repeat' (first | (with_reducible assumption) | (with_reducible exact Below.refl _ _) | (with_reducible refine below_drewN ?_ _) | (with_reducible refine Below.drew ?_) | (with_reducible refine Below.alloc ?_ ?_ _) | (with_reducible refine Below.setCell ?_ ?_ _) | (with_reducible refine Below.trans ?_ (Below.mono (by assumption) ?_)) | (with_reducible exact Nat.le_refl _) | (with_reducible assumption) | omega | (simp; omega) | (simp; done))))).mono ?_
  rintro e w1 ⟨rfl, hb1⟩
  have HB := Lib.hid hb1; clear hb1
  go_wp2
  go_ret
  exact ⟨rfl, by have hb1 := HB.out; (repeat' (first | (with_reducible assumption) | (with_reducible exact Below.refl _ _) | (with_reducible refine below_drewN ?_ _) | (with_reducible refine Below.drew ?_) | (with_reducible refine Below.alloc ?_ ?_ _) | (with_reducible refine Below.setCell ?_ ?_ _) | (with_reducible refine Below.trans ?_ (Below.mono (by assumption) ?_)) | (with_reducible exact Nat.le_refl _) | (with_reducible assumption) | omega | (simp; omega) | (simp; done)))⟩
set_option maxHeartbeats 1000000 in
theorem spec_IsDesk_any (q : Int) (v : Value) (l : List Int) (w : World) (hv : Sl w v l) (hl : l.length ≤ 1048576) :
    Calls Try.prog 14 #[dsk q v] w fun e w' => e = .returned (.bool (isSz q && good q l)) ∧ Below w.heap.size w w' := by
  have HG := Lib.hid (fun w' (hb : Below w.heap.size w w') => coGood_any q v l w' (hv.below hb (Nat.le_refl _)) hl)
  clear hv hl
  go_enter Try.func14, Try.ntmps14
  go_wp2_with fail
  refine (HG.out _ (by (repeat' (first | (with_reducible assumption) | (with_reducible exact Below.refl _ _) | (with_reducible refine below_drewN ?_ _) | (with_reducible refine Below.drew ?_) | (with_reducible refine Below.alloc ?_ ?_ _) | (with_reducible refine Below.setCell ?_ ?_ _) | (with_reducible refine Below.trans ?_ (Below.mono (by assumption) ?_)) | (with_reducible exact Nat.le_refl _) | (with_reducible assumption) | omega | (simp; omega) | (simp; done))))).mono ?_
  rintro e w1 ⟨rfl, hb1⟩
  have HB := Lib.hid hb1; clear hb1
  go_wp2
  go_ret
  exact ⟨rfl, by have hb1 := HB.out; (repeat' (first | (with_reducible assumption) | (with_reducible exact Below.refl _ _) | (with_reducible refine below_drewN ?_ _) | (with_reducible refine Below.drew ?_) | (with_reducible refine Below.alloc ?_ ?_ _) | (with_reducible refine Below.setCell ?_ ?_ _) | (with_reducible refine Below.trans ?_ (Below.mono (by assumption) ?_)) | (with_reducible exact Nat.le_refl _) | (with_reducible assumption) | omega | (simp; omega) | (simp; done)))⟩
set_option maxHeartbeats 2000000 in
theorem impl_IsDesk_any (q : Int) (v : Value) (l : List Int) (w : World) (hv : Sl w v l) (hl : l.length ≤ 1048576) :
    Calls Try.prog 16 #[dsk q v] w fun e w' => e = .returned (.bool (isSz q && good q l)) ∧ Below w.heap.size w w' := by
  cases h : isSz q && good q l with
  | false =>
    have HG := Lib.hid (fun w' (hb : Below w.heap.size w w') => validPoly_no q v l w' (hv.below hb (Nat.le_refl _)) hl h)
    clear hv hl h
    go_enter Try.func16, Try.ntmps16
    go_wp2_with fail
    refine (HG.out _ (by (repeat' (first | (with_reducible assumption) | (with_reducible exact Below.refl _ _) | (with_reducible refine below_drewN ?_ _) | (with_reducible refine Below.drew ?_) | (with_reducible refine Below.alloc ?_ ?_ _) | (with_reducible refine Below.setCell ?_ ?_ _) | (with_reducible refine Below.trans ?_ (Below.mono (by assumption) ?_)) | (with_reducible exact Nat.le_refl _) | (with_reducible assumption) | omega | (simp; omega) | (simp; done))))).mono ?_
    rintro e w1 ⟨rfl, hb1⟩
    have HB := Lib.hid hb1; clear hb1
    go_wp2
    go_ret
    exact ⟨rfl, by have hb1 := HB.out; have hz := hb1.size; (try simp at hz); (repeat' (first | (with_reducible assumption) | (with_reducible exact Below.refl _ _) | (with_reducible refine below_drewN ?_ _) | (with_reducible refine Below.drew ?_) | (with_reducible refine Below.alloc ?_ ?_ _) | (with_reducible refine Below.setCell ?_ ?_ _) | (with_reducible refine Below.trans ?_ (Below.mono (by assumption) ?_)) | (with_reducible exact Nat.le_refl _) | (with_reducible assumption) | omega | (simp; omega) | (simp; done)))⟩
  | true =>
    rw [Bool.and_eq_true] at h
    have HG := Lib.hid (fun w' (hb : Below w.heap.size w w') => validPoly_yes q v l w' h.1 (hv.below hb (Nat.le_refl _)) h.2)
    clear hv hl h
    generalize l.length = n at *
    go_enter Try.func16, Try.ntmps16
    go_wp2_with fail
    refine (HG.out _ (by (repeat' (first | (with_reducible assumption) | (with_reducible exact Below.refl _ _) | (with_reducible refine below_drewN ?_ _) | (with_reducible refine Below.drew ?_) | (with_reducible refine Below.alloc ?_ ?_ _) | (with_reducible refine Below.setCell ?_ ?_ _) | (with_reducible refine Below.trans ?_ (Below.mono (by assumption) ?_)) | (with_reducible exact Nat.le_refl _) | (with_reducible assumption) | omega | (simp; omega) | (simp; done))))).mono ?_
    rintro e w1 ⟨g, rfl, _, _, _, hb1⟩
    have HB := Lib.hid hb1; clear hb1
    go_wp2
    go_ret
    exact ⟨rfl, by have hb1 := HB.out; have hz := hb1.size; (try simp at hz); (repeat' (first | (with_reducible assumption) | (with_reducible exact Below.refl _ _) | (with_reducible refine below_drewN ?_ _) | (with_reducible refine Below.drew ?_) | (with_reducible refine Below.alloc ?_ ?_ _) | (with_reducible refine Below.setCell ?_ ?_ _) | (with_reducible refine Below.trans ?_ (Below.mono (by assumption) ?_)) | (with_reducible exact Nat.le_refl _) | (with_reducible assumption) | omega | (simp; omega) | (simp; done)))⟩
set_option maxHeartbeats 2000000 in
theorem toDesk_any (q : Int) (v : Value) (l : List Int) (w : World) (hv : Sl w v l) (hl : l.length ≤ 1048576) :
    Calls Try.prog 15 #[dsk q v] w fun e w' => ∃ v', e = .returned (dsk q v') ∧ Row w' w.heap.size v' l ∧ Below w.heap.size w w' := by
  have HT := Lib.hid (fun w' (hb : Below w.heap.size w w') => toIntS_any v l w' (hv.below hb (Nat.le_refl _)) hl)
  clear hv hl
  go_enter Try.func15, Try.ntmps15
  go_wp2_with fail
  refine (HT.out _ (by (repeat' (first | (with_reducible assumption) | (with_reducible exact Below.refl _ _) | (with_reducible refine below_drewN ?_ _) | (with_reducible refine Below.drew ?_) | (with_reducible refine Below.alloc ?_ ?_ _) | (with_reducible refine Below.setCell ?_ ?_ _) | (with_reducible refine Below.trans ?_ (Below.mono (by assumption) ?_)) | (with_reducible exact Nat.le_refl _) | (with_reducible assumption) | omega | (simp; omega) | (simp; done))))).mono ?_
  rintro e w1 ⟨v', rfl, hr, hb1⟩
  obtain ⟨a1, c1, rfl⟩ := hr.sl.form
  obtain ⟨hc1, hf1⟩ := bcell hb1; have hz1 := hb1.size; (try simp at hz1); have HB1 := Lib.hid hb1; clear hb1
  have lt1 := hr.lt
  have HR := Lib.hid hr; clear hr
  have HLT := Lib.hid lt1; clear lt1
  have hl1 : w.heap.size < w1.heap.size := by omega
  have hl2 : w.heap.size + 1 < w1.heap.size := by omega
  have hl3 : w.heap.size + 2 < w1.heap.size := by omega
  have x0 : w1.cell? ⟨w.heap.size + 1, 0, none⟩ = some (.int .i64 0) := (hc1 _ _ (by simp)).trans ((World.cell?_alloc_past _ _ _ (by simp)).trans (by simp))
  have x1 : w1.cell? ⟨w.heap.size + 1, 1, none⟩ = some (.slice none 0 0) := (hc1 _ _ (by simp)).trans ((World.cell?_alloc_past _ _ _ (by simp)).trans (by simp))
  have y0 : ((w1.setCell ⟨w.heap.size + 1 + 1, 1, none⟩ (.slice a1 l.length c1)).setCell ⟨w.heap.size + 1, 0, none⟩ (.int .i64 q)).cell? ⟨w.heap.size + 1, 0, none⟩ = some (.int .i64 q) :=
    World.cell?_setCell_same _ _ _ ((World.cell?_setCell_other _ _ _ _ (by simp)).trans x0)
  have y1 : (((w1.setCell ⟨w.heap.size + 1 + 1, 1, none⟩ (.slice a1 l.length c1)).setCell ⟨w.heap.size + 1, 0, none⟩ (.int .i64 q)).setCell ⟨w.heap.size + 1, 1, none⟩ (.slice a1 l.length c1)).cell? ⟨w.heap.size + 1, 1, none⟩ = some (.slice a1 l.length c1) :=
    World.cell?_setCell_same _ _ _ ((World.cell?_setCell_other _ _ _ _ (by simp)).trans ((World.cell?_setCell_other _ _ _ _ (by simp)).trans x1))
  have y2 : (((w1.setCell ⟨w.heap.size + 1 + 1, 1, none⟩ (.slice a1 l.length c1)).setCell ⟨w.heap.size + 1, 0, none⟩ (.int .i64 q)).setCell ⟨w.heap.size + 1, 1, none⟩ (.slice a1 l.length c1)).cell? ⟨w.heap.size + 1, 0, none⟩ = some (.int .i64 q) :=
    (World.cell?_setCell_other _ _ _ _ (by simp)).trans y0
  go_wp2
  refine bodyPost_ret (v := dsk q (.slice a1 l.length c1)) (by simp [results, Try.results15, go_sem, y1, y2]; try rfl) rfl ?_
  have hb1 := HB1.out
  refine ⟨_, rfl, ?_, by (repeat' (first | (with_reducible assumption) | (with_reducible exact Below.refl _ _) | (with_reducible refine below_drewN ?_ _) | (with_reducible refine Below.drew ?_) | (with_reducible refine Below.alloc ?_ ?_ _) | (with_reducible refine Below.setCell ?_ ?_ _) | (with_reducible refine Below.trans ?_ (Below.mono (by assumption) ?_)) | (with_reducible exact Nat.le_refl _) | (with_reducible assumption) | omega | (simp; omega) | (simp; done)))⟩
  refine (HR.out.keep fun g hg => ?_).mono (by simp; omega)
  have h1 := (HLT.out g hg).1
  simp at h1
  rw [heap_setCell_other _ _ _ _ (show g ≠ w.heap.size + 1 by omega), heap_setCell_other _ _ _ _ (show g ≠ w.heap.size + 1 by omega), heap_setCell_other _ _ _ _ (show g ≠ w.heap.size + 1 + 1 by omega)]
set_option maxHeartbeats 1000000 in
theorem szDesk_any (q left : Int) (v : Value) (l : List Int) (w : World) (hv : Sl w v l) (h0 : 0 ≤ left) (h1 : left ≤ 1048576) (h2 : l.length ≤ 9223372036854775807) :
    Calls Try.prog 13 #[dsk q v, .int .i64 left] w fun e w' => e = .returned (.int .i64 (if left - (l.length : Int) < 0 then -1 else left - (l.length : Int))) ∧ Below w.heap.size w w' := by
  obtain ⟨a1, c1, rfl⟩ := hv.form
  clear hv
  generalize l.length = n at *
  by_cases hn : left - (n : Int) < 0
  · rw [if_pos hn]
    have hw : IntKind.i64.wrap (left - (n : Int)) = left - (n : Int) := IntWalk.i64_in _ (by omega)
    go_enter Try.func13, Try.ntmps13
    go_wp2
    go_ret
    exact ⟨rfl, by (repeat' (first | (with_reducible assumption) | (with_reducible exact Below.refl _ _) | (with_reducible refine below_drewN ?_ _) | (with_reducible refine Below.drew ?_) | (with_reducible refine Below.alloc ?_ ?_ _) | (with_reducible refine Below.setCell ?_ ?_ _) | (with_reducible refine Below.trans ?_ (Below.mono (by assumption) ?_)) | (with_reducible exact Nat.le_refl _) | (with_reducible assumption) | omega | (simp; omega) | (simp; done)))⟩
  · rw [if_neg hn]
    have hw : IntKind.i64.wrap (left - (n : Int)) = left - (n : Int) := IntWalk.i64_in _ (by omega)
    go_enter Try.func13, Try.ntmps13
    go_wp2
    go_ret
    exact ⟨rfl, by (repeat' (first | (with_reducible assumption) | (with_reducible exact Below.refl _ _) | (with_reducible refine below_drewN ?_ _) | (with_reducible refine Below.drew ?_) | (with_reducible refine Below.alloc ?_ ?_ _) | (with_reducible refine Below.setCell ?_ ?_ _) | (with_reducible refine Below.trans ?_ (Below.mono (by assumption) ?_)) | (with_reducible exact Nat.le_refl _) | (with_reducible assumption) | omega | (simp; omega) | (simp; done)))⟩
set_option maxRecDepth 100000 in
set_option maxHeartbeats 4000000 in
/-- laws.FnExactIsDesk. -/
theorem walk_FnExactIsDesk (q : Int) (a : Option Addr) (n c : Nat) (z : List Int) (w : World) (h : IsRow .i64 w a n c z) (hn : n ≤ 9223372036854775807) :
    Calls Try.prog 4 #[dsk q (.slice a n c)] w fun e w' => e = .returned (.bool true) ∧ Below w.heap.size w w' := by
  obtain ⟨hs, hl, _⟩ := h.sl
  generalize z.take n = l at *
  clear h
  subst hl
  have HSZ := Lib.hid (fun w' (hb : Below w.heap.size w w') => szDesk_any q 1048576 _ l w' (hs.below hb (Nat.le_refl _)) (by omega) (by omega) hn)
  by_cases hb : l.length ≤ 1048576
  · have HT := Lib.hid (fun w' (hb' : Below w.heap.size w w') => toDesk_any q _ l w' (hs.below hb' (Nat.le_refl _)) hb)
    have HI := Lib.hid (fun v w' (hv : Sl w' v l) => impl_IsDesk_any q v l w' hv hb)
    have HS := Lib.hid (fun v w' (hv : Sl w' v l) => spec_IsDesk_any q v l w' hv hb)
    have HL := Lib.hid hb
    have hlt : ¬ (1048576 : Int) - (l.length : Int) < 0 := by omega
    rw [if_neg hlt] at HSZ
    clear hs hn hb
    generalize (isSz q && good q l) = r at *
    go_enter Try.func4, Try.ntmps4
    go_wp2_with fail
    refine (HSZ.out _ (by (repeat' (first | (with_reducible assumption) | (with_reducible exact Below.refl _ _) | (with_reducible refine below_drewN ?_ _) | (with_reducible refine Below.drew ?_) | (with_reducible refine Below.alloc ?_ ?_ _) | (with_reducible refine Below.setCell ?_ ?_ _) | (with_reducible refine Below.trans ?_ (Below.mono (by assumption) ?_)) | (with_reducible exact Nat.le_refl _) | (with_reducible assumption) | omega | (simp; omega) | (simp; done))))).mono ?_
    rintro e w1 ⟨rfl, hb1⟩
    have HB1 : Hid (Below w.heap.size w w1) := Lib.hid (by (repeat' (first | (with_reducible assumption) | (with_reducible exact Below.refl _ _) | (with_reducible refine below_drewN ?_ _) | (with_reducible refine Below.drew ?_) | (with_reducible refine Below.alloc ?_ ?_ _) | (with_reducible refine Below.setCell ?_ ?_ _) | (with_reducible refine Below.trans ?_ (Below.mono (by assumption) ?_)) | (with_reducible exact Nat.le_refl _) | (with_reducible assumption) | omega | (simp; omega) | (simp; done))))
    have c0 : w1.cell? ⟨w.heap.size, 0, none⟩ = some (.int .i64 q) := (hb1.cell (p := ⟨w.heap.size, 0, none⟩) (by simp)).trans (by simp)
    have c1 : w1.cell? ⟨w.heap.size, 1, none⟩ = some (.slice a l.length c) := (hb1.cell (p := ⟨w.heap.size, 1, none⟩) (by simp)).trans (by simp)
    have hl1 : w.heap.size < w1.heap.size := by have := hb1.size; simp at this; omega
    clear hb1
    have hlt2 : ¬ 1048576 < l.length := by omega
    go_wp2_with fail
    refine (HT.out _ HB1.out).mono ?_
    rintro e w2 ⟨v2, rfl, hr2, hb2⟩
    have HR2 := Lib.hid hr2; clear hr2
    have HB2 := Lib.hid (HB1.out.trans (hb2.mono HB1.out.size))
    have d0 := (hb2.cell (p := ⟨w.heap.size, 0, none⟩) hl1).trans c0
    have d1 := (hb2.cell (p := ⟨w.heap.size, 1, none⟩) hl1).trans c1
    have hl2 : w.heap.size < w2.heap.size := by have := hb2.size; omega
    clear c0 c1 hb2
    go_wp2_with fail
    refine (HS.out v2 _ HR2.out.sl).mono ?_
    rintro e w3 ⟨rfl, hb3⟩
    have HB3 := Lib.hid (HB2.out.trans (hb3.mono HB2.out.size))
    have c0 := (hb3.cell (p := ⟨w.heap.size, 0, none⟩) hl2).trans d0
    have c1 := (hb3.cell (p := ⟨w.heap.size, 1, none⟩) hl2).trans d1
    have hl3 : w.heap.size < w3.heap.size := by have := hb3.size; omega
    clear d0 d1 hb3
    go_wp2_with fail
    refine (HT.out _ HB3.out).mono ?_
    rintro e w4 ⟨v4, rfl, hr4, hb4⟩
    obtain ⟨a4, c4, rfl⟩ := hr4.sl.form
    have HR4 := Lib.hid hr4; clear hr4
    have HB4 := Lib.hid (HB3.out.trans (hb4.mono HB3.out.size))
    have d0 := (hb4.cell (p := ⟨w.heap.size, 0, none⟩) hl3).trans c0
    have d1 := (hb4.cell (p := ⟨w.heap.size, 1, none⟩) hl3).trans c1
    have hl4 : w.heap.size < w4.heap.size := by have := hb4.size; omega
    clear c0 c1 hb4
    have HR4a := Lib.hid (HR4.out.below (w' := w4.alloc (.cells #[.int .i64 q, .slice a4 l.length c4] 24)) (by (repeat' (first | (with_reducible assumption) | (with_reducible exact Below.refl _ _) | (with_reducible refine below_drewN ?_ _) | (with_reducible refine Below.drew ?_) | (with_reducible refine Below.alloc ?_ ?_ _) | (with_reducible refine Below.setCell ?_ ?_ _) | (with_reducible refine Below.trans ?_ (Below.mono (by assumption) ?_)) | (with_reducible exact Nat.le_refl _) | (with_reducible assumption) | omega | (simp; omega) | (simp; done)))))
    go_wp2_with fail
    refine (HI.out _ _ HR4a.out.sl).mono ?_
    rintro e w5 ⟨rfl, hb5⟩
    have HR5 := Lib.hid (HR4a.out.below hb5)
    have HB5 : Hid (Below w.heap.size w w5) := Lib.hid (by have hb4 := HB4.out; have := hb4.size; (repeat' (first | (with_reducible assumption) | (with_reducible exact Below.refl _ _) | (with_reducible refine below_drewN ?_ _) | (with_reducible refine Below.drew ?_) | (with_reducible refine Below.alloc ?_ ?_ _) | (with_reducible refine Below.setCell ?_ ?_ _) | (with_reducible refine Below.trans ?_ (Below.mono (by assumption) ?_)) | (with_reducible exact Nat.le_refl _) | (with_reducible assumption) | omega | (simp; omega) | (simp; done))))
    have hz5 := hb5.size
    simp at hz5
    have c0 : w5.cell? ⟨w.heap.size, 0, none⟩ = some (.int .i64 q) := (hb5.cell (p := ⟨w.heap.size, 0, none⟩) (by simp; omega)).trans ((World.cell?_alloc_past _ _ _ hl4).trans d0)
    have c1 : w5.cell? ⟨w.heap.size, 1, none⟩ = some (.slice a l.length c) := (hb5.cell (p := ⟨w.heap.size, 1, none⟩) (by simp; omega)).trans ((World.cell?_alloc_past _ _ _ hl4).trans d1)
    have e0 : w5.cell? ⟨w4.heap.size, 0, none⟩ = some (.int .i64 q) := (hb5.cell (p := ⟨w4.heap.size, 0, none⟩) (by simp)).trans (by simp)
    have e1 : w5.cell? ⟨w4.heap.size, 1, none⟩ = some (.slice a4 l.length c4) := (hb5.cell (p := ⟨w4.heap.size, 1, none⟩) (by simp)).trans (by simp)
    have hl5 : w.heap.size < w5.heap.size := by omega
    have hl6 : w4.heap.size < w5.heap.size := by omega
    have HKEEP : Hid (∀ w', Below w5.heap.size w5 w' → w'.cell? ⟨w.heap.size, 0, none⟩ = some (.int .i64 q) ∧ w'.cell? ⟨w.heap.size, 1, none⟩ = some (.slice a l.length c) ∧ w'.cell? ⟨w4.heap.size, 0, none⟩ = some (.int .i64 q) ∧ w'.cell? ⟨w4.heap.size, 1, none⟩ = some (.slice a4 l.length c4)) := Lib.hid fun w' hb => ⟨(hb.cell (p := ⟨w.heap.size, 0, none⟩) hl5).trans c0, (hb.cell (p := ⟨w.heap.size, 1, none⟩) hl5).trans c1, (hb.cell (p := ⟨w4.heap.size, 0, none⟩) hl6).trans e0, (hb.cell (p := ⟨w4.heap.size, 1, none⟩) hl6).trans e1⟩
    clear d0 d1 hb5
    have HT5 := Lib.hid (fun w' (hb : Below w5.heap.size w5 w') => HT.out w' (HB5.out.trans (hb.mono HB5.out.size)))
    go_wp2_with fail
    go_region_held3 (fun w' => w'.cell? ⟨w.heap.size, 0, none⟩ = some (.int .i64 q) ∧ w'.cell? ⟨w.heap.size, 1, none⟩ = some (.slice a l.length c) ∧ w'.cell? ⟨w4.heap.size, 0, none⟩ = some (.int .i64 q) ∧ w'.cell? ⟨w4.heap.size, 1, none⟩ = some (.slice a4 l.length c4))
      (exact HKEEP.out _ (by (try have hb6 := HB6.out); (try have hb7 := HB7.out); (try have z6 : w5.heap.size ≤ w6.heap.size := hb6.size); (try have z7 : w6.heap.size ≤ w7.heap.size := hb7.size); (repeat' (first | (with_reducible assumption) | (with_reducible exact Below.refl _ _) | (with_reducible refine below_drewN ?_ _) | (with_reducible refine Below.drew ?_) | (with_reducible refine Below.alloc ?_ ?_ _) | (with_reducible refine Below.setCell ?_ ?_ _) | (with_reducible refine Below.trans ?_ (Below.mono (by assumption) ?_)) | (with_reducible exact Nat.le_refl _) | (with_reducible assumption) | omega | (simp; omega) | (simp; done)))))
      (first
        | (go_at_call 15; refine (HT5.out _ (by (repeat' (first | (with_reducible assumption) | (with_reducible exact Below.refl _ _) | (with_reducible refine below_drewN ?_ _) | (with_reducible refine Below.drew ?_) | (with_reducible refine Below.alloc ?_ ?_ _) | (with_reducible refine Below.setCell ?_ ?_ _) | (with_reducible refine Below.trans ?_ (Below.mono (by assumption) ?_)) | (with_reducible exact Nat.le_refl _) | (with_reducible assumption) | omega | (simp; omega) | (simp; done))))).mono ?_; rintro e w6 ⟨v6, rfl, hr6, hb6⟩; have HR6 := Lib.hid hr6; clear hr6; have HB6 := Lib.hid hb6; clear hb6)
        | (go_at_call 10; refine (eqDesk_same q _ v6 l _ _ _ ((HR5.out.below (w' := w6) (by have hb6 := HB6.out; (repeat' (first | (with_reducible assumption) | (with_reducible exact Below.refl _ _) | (with_reducible refine below_drewN ?_ _) | (with_reducible refine Below.drew ?_) | (with_reducible refine Below.alloc ?_ ?_ _) | (with_reducible refine Below.setCell ?_ ?_ _) | (with_reducible refine Below.trans ?_ (Below.mono (by assumption) ?_)) | (with_reducible exact Nat.le_refl _) | (with_reducible assumption) | omega | (simp; omega) | (simp; done))))).below (by (repeat' (first | (with_reducible assumption) | (with_reducible exact Below.refl _ _) | (with_reducible refine below_drewN ?_ _) | (with_reducible refine Below.drew ?_) | (with_reducible refine Below.alloc ?_ ?_ _) | (with_reducible refine Below.setCell ?_ ?_ _) | (with_reducible refine Below.trans ?_ (Below.mono (by assumption) ?_)) | (with_reducible exact Nat.le_refl _) | (with_reducible assumption) | omega | (simp; omega) | (simp; done))))) (HR6.out.below (by (repeat' (first | (with_reducible assumption) | (with_reducible exact Below.refl _ _) | (with_reducible refine below_drewN ?_ _) | (with_reducible refine Below.drew ?_) | (with_reducible refine Below.alloc ?_ ?_ _) | (with_reducible refine Below.setCell ?_ ?_ _) | (with_reducible refine Below.trans ?_ (Below.mono (by assumption) ?_)) | (with_reducible exact Nat.le_refl _) | (with_reducible assumption) | omega | (simp; omega) | (simp; done))))) HL.out).mono ?_; rintro e w7 ⟨rfl, hb7⟩; have HB7 := Lib.hid hb7; clear hb7))
    all_goals
      go_wp2
      go_ret
      exact ⟨rfl, by have hb5 := HB5.out; have hb6 := HB6.out; have hb7 := HB7.out; have z5 := hb5.size; have z6 : w5.heap.size ≤ w6.heap.size := hb6.size; have z7 : w6.heap.size ≤ w7.heap.size := hb7.size; (repeat' (first | (with_reducible assumption) | (with_reducible exact Below.refl _ _) | (with_reducible refine below_drewN ?_ _) | (with_reducible refine Below.drew ?_) | (with_reducible refine Below.alloc ?_ ?_ _) | (with_reducible refine Below.setCell ?_ ?_ _) | (with_reducible refine Below.trans ?_ (Below.mono (by assumption) ?_)) | (with_reducible exact Nat.le_refl _) | (with_reducible assumption) | omega | (simp; omega) | (simp; done)))⟩
  · have hlt : (1048576 : Int) - (l.length : Int) < 0 := by omega
    rw [if_pos hlt] at HSZ
    clear hs hn hb
    go_enter Try.func4, Try.ntmps4
    go_wp2_with fail
    refine (HSZ.out _ (by (repeat' (first | (with_reducible assumption) | (with_reducible exact Below.refl _ _) | (with_reducible refine below_drewN ?_ _) | (with_reducible refine Below.drew ?_) | (with_reducible refine Below.alloc ?_ ?_ _) | (with_reducible refine Below.setCell ?_ ?_ _) | (with_reducible refine Below.trans ?_ (Below.mono (by assumption) ?_)) | (with_reducible exact Nat.le_refl _) | (with_reducible assumption) | omega | (simp; omega) | (simp; done))))).mono ?_
    rintro e w1 ⟨rfl, hb1⟩
    have HB1 : Hid (Below w.heap.size w w1) := Lib.hid (by (repeat' (first | (with_reducible assumption) | (with_reducible exact Below.refl _ _) | (with_reducible refine below_drewN ?_ _) | (with_reducible refine Below.drew ?_) | (with_reducible refine Below.alloc ?_ ?_ _) | (with_reducible refine Below.setCell ?_ ?_ _) | (with_reducible refine Below.trans ?_ (Below.mono (by assumption) ?_)) | (with_reducible exact Nat.le_refl _) | (with_reducible assumption) | omega | (simp; omega) | (simp; done))))
    clear hb1
    go_wp2
    go_ret
    exact ⟨rfl, HB1.out⟩
end Go.Proofs.Ytapglncgicfjnaa
