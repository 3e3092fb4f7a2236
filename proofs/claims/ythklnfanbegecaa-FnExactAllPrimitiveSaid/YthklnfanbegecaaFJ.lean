/- impl.AllPrimitive, SquaresOf, SubfieldOf by contracts; the walks of their laws. -/
import Derived.Test.YthklnfanbegecaaFH
import Derived.Test.YthklnfanbegecaaFI
namespace Go.Proofs.Ythklnfanbegecaa
open Go.RowKit
set_option maxHeartbeats 1000000 in
theorem impl_AllPrimitive_yes (q : Int) (w : World) (h : isSz q = true) :
    Calls Try.prog 14 #[.int .i64 q] w fun e w' => ∃ v, e = .returned (.tuple #[v, .bool true]) ∧ Row w' w.heap.size v (wh (isPr q) q.toNat) ∧ Below w.heap.size w w' := by
  have HF := Lib.hid (fun w => fieldOf_yes q w h)
  have HN := Lib.hid (fun w => numbersWhere_isPrimitive q w h)
  clear h
  go_enter Try.func14, Try.ntmps14
  go_wp2_with fail
  refine (HF.out _).mono ?_
  rintro e w1 ⟨rfl, hb1⟩
  have hz_hb1 := hb1.size; (try simp at hz_hb1)
  have HB1 := Lib.hid hb1; clear hb1
  go_wp2_with fail
  refine (HN.out _).mono ?_
  rintro e w2 ⟨v, rfl, hr, hb2⟩
  have hz_hb2 := hb2.size; (try simp at hz_hb2)
  have HR := Lib.hid hr; clear hr
  have HB2 := Lib.hid hb2; clear hb2
  go_wp2
  go_ret2
  have hb1 := HB1.out
  have hb2 := HB2.out
  exact ⟨_, rfl, HR.out.mono (by simp; omega), by (repeat' (first | (with_reducible assumption) | (with_reducible exact Below.refl _ _) | (with_reducible refine below_drewN ?_ _) | (with_reducible refine Below.drew ?_) | (with_reducible refine Below.alloc ?_ ?_ _) | (with_reducible refine Below.setCell ?_ ?_ _) | (with_reducible refine Below.trans ?_ (Below.mono (by assumption) ?_)) | (with_reducible exact Nat.le_refl _) | (with_reducible assumption) | omega | (simp; omega) | (simp; done)))⟩
theorem impl_AllPrimitive_no (q : Int) (w : World) (h : isSz q = false) :
    Calls Try.prog 14 #[.int .i64 q] w fun e w' => e = .returned (.tuple #[.slice none 0 0, .bool false]) ∧ Below w.heap.size w w' := by
  have HF := Lib.hid (fun w => fieldOf_no q w h)
  clear h
  go_enter Try.func14, Try.ntmps14
  go_wp2_with fail
  refine (HF.out _).mono ?_
  rintro e w1 ⟨rfl, hb1⟩
  have hz_hb1 := hb1.size; (try simp at hz_hb1)
  have HB1 := Lib.hid hb1; clear hb1
  go_wp2_with fail
  go_ret2
  have hb1 := HB1.out
  exact ⟨rfl, by (repeat' (first | (with_reducible assumption) | (with_reducible exact Below.refl _ _) | (with_reducible refine below_drewN ?_ _) | (with_reducible refine Below.drew ?_) | (with_reducible refine Below.alloc ?_ ?_ _) | (with_reducible refine Below.setCell ?_ ?_ _) | (with_reducible refine Below.trans ?_ (Below.mono (by assumption) ?_)) | (with_reducible exact Nat.le_refl _) | (with_reducible assumption) | omega | (simp; omega) | (simp; done)))⟩
set_option maxRecDepth 100000 in
set_option maxHeartbeats 2000000 in
/-- laws.FnExactAllPrimitive. -/
theorem walk_FnExactAllPrimitive (q : Int) (_h : (Lit.int .i64 q).wf = true) (w : World) :
    Calls Try.prog 3 #[.int .i64 q] w fun e w' => e = .returned (.bool true) ∧ Below w.heap.size w w' := by
  have key : ∃ (l : List Int) (o : Bool), l.length ≤ 100 ∧ (∀ w, Calls Try.prog 13 #[.int .i64 q] w fun e w' => ∃ v, e = .returned (.tuple #[v, .bool o]) ∧ Row w' w.heap.size v l ∧ Below w.heap.size w w') ∧
      (∀ w, Calls Try.prog 14 #[.int .i64 q] w fun e w' => ∃ v, e = .returned (.tuple #[v, .bool o]) ∧ Row w' w.heap.size v l ∧ Below w.heap.size w w') := by
    cases h : isSz q with
    | true => exact ⟨wh (isPr q) q.toNat, true, by have h1 := isSz_le q h; have h2 := wh_len (isPr q) q.toNat; omega, fun w => spec_AllPrimitive_yes q w h, fun w => impl_AllPrimitive_yes q w h⟩
    | false => exact ⟨[], false, by simp, fun w => (spec_AllPrimitive_no q w h).mono fun _ _ ⟨he, hb⟩ => ⟨_, he, Row.nil _ _, hb⟩, fun w => (impl_AllPrimitive_no q w h).mono fun _ _ ⟨he, hb⟩ => ⟨_, he, Row.nil _ _, hb⟩⟩
  obtain ⟨l, o, hl, k1, k2⟩ := key
  have K1 := Lib.hid k1; clear k1
  have K2 := Lib.hid k2; clear k2
  clear _h
  go_enter Try.func3, Try.ntmps3
  go_wp2_with fail
  refine (K1.out _).mono ?_
  rintro e w1 ⟨v1, rfl, hr1, hb1⟩
  have hz_hb1 := hb1.size; (try simp at hz_hb1)
  have HR1 := Lib.hid hr1; clear hr1
  have HB1 := Lib.hid hb1; clear hb1
  go_wp2_with fail
  refine (K2.out _).mono ?_
  rintro e w2 ⟨v2, rfl, hr2, hb2⟩
  have hz_hb2 := hb2.size; (try simp at hz_hb2)
  have HR1b := Lib.hid (HR1.out.below hb2)
  have HR2 := Lib.hid hr2; clear hr2
  have HB2 := Lib.hid hb2; clear hb2
  go_wp2_with fail
  refine (eq_same v2 v1 l _ _ _ HR2.out HR1b.out (by omega)).mono ?_
  rintro e w3 ⟨rfl, hb3⟩
  have hz_hb3 := hb3.size; (try simp at hz_hb3)
  have HR1c := Lib.hid (HR1b.out.below hb3)
  have HR2c := Lib.hid (HR2.out.below hb3)
  have HB3 := Lib.hid hb3; clear hb3
  go_wp2_with fail
  refine (mark_any v2 l _ 1 _ HR2c.out (by omega) (by decide) (by decide)).mono ?_
  rintro e w4 ⟨rfl, hr4, hg4⟩
  have hz4 := hg4.size
  have HR1d := Lib.hid (HR1c.out.keep (w' := w4) fun g hg => hg4.block g (HR1c.out.lt g hg).2 fun e => by have h1 := (HR1.out.lt g hg).2; have h2 := (HR2c.out.lt g e.symm).1; omega)
  have HB4 : Hid (Below w.heap.size w w4) := Lib.hid (Below.grown (by have hb1 := HB1.out; have hb2 := HB2.out; have hb3 := HB3.out; (repeat' (first | (with_reducible assumption) | (with_reducible exact Below.refl _ _) | (with_reducible refine below_drewN ?_ _) | (with_reducible refine Below.drew ?_) | (with_reducible refine Below.alloc ?_ ?_ _) | (with_reducible refine Below.setCell ?_ ?_ _) | (with_reducible refine Below.trans ?_ (Below.mono (by assumption) ?_)) | (with_reducible exact Nat.le_refl _) | (with_reducible assumption) | omega | (simp; omega) | (simp; done)))) hg4 (by omega) (fun g e => by have := (HR2c.out.lt g e).1; omega))
  have HR4 := Lib.hid hr4; clear hr4
  clear hg4
  go_wp2_with fail
  refine (held_any v2 l.length _ 1 _ HR4.out (by omega) (by decide) (by decide)).mono ?_
  rintro e w5 ⟨rfl, rfl⟩
  go_wp2_with fail
  refine (K2.out _).mono ?_
  rintro e w6 ⟨v6, rfl, hr6, hb6⟩
  have hz_hb6 := hb6.size; (try simp at hz_hb6)
  have HR1e := Lib.hid (HR1d.out.below hb6)
  have HR4e := Lib.hid (HR4.out.below hb6)
  have HR6 := Lib.hid hr6; clear hr6
  have HB6 := Lib.hid hb6; clear hb6
  go_wp2_with fail
  refine (eq_same v6 v1 l _ _ _ HR6.out HR1e.out (by omega)).mono ?_
  rintro e w7 ⟨rfl, hb7⟩
  have hz_hb7 := hb7.size; (try simp at hz_hb7)
  have HR4f := Lib.hid (HR4e.out.below hb7)
  have HB7 := Lib.hid hb7; clear hb7
  go_wp2_with fail
  refine (held_any v2 l.length _ 1 _ HR4f.out (by omega) (by decide) (by decide)).mono ?_
  rintro e w8 ⟨rfl, rfl⟩
  go_wp2
  go_ret
  have hb4 := HB4.out
  have hb6 := HB6.out
  have hb7 := HB7.out
  exact ⟨rfl, by (repeat' (first | (with_reducible assumption) | (with_reducible exact Below.refl _ _) | (with_reducible refine below_drewN ?_ _) | (with_reducible refine Below.drew ?_) | (with_reducible refine Below.alloc ?_ ?_ _) | (with_reducible refine Below.setCell ?_ ?_ _) | (with_reducible refine Below.trans ?_ (Below.mono (by assumption) ?_)) | (with_reducible exact Nat.le_refl _) | (with_reducible assumption) | omega | (simp; omega) | (simp; done)))⟩

set_option maxHeartbeats 1000000 in
theorem impl_SquaresOf_yes (q : Int) (w : World) (h : isSz q = true) :
    Calls Try.prog 27 #[.int .i64 q] w fun e w' => ∃ v, e = .returned (.tuple #[v, .bool true]) ∧ Row w' w.heap.size v (wh (isSqN q) q.toNat) ∧ Below w.heap.size w w' := by
  have HF := Lib.hid (fun w => fieldOf_yes q w h)
  have HN := Lib.hid (fun w => numbersWhere_isSquare q w h)
  clear h
  go_enter Try.func27, Try.ntmps27
  go_wp2_with fail
  refine (HF.out _).mono ?_
  rintro e w1 ⟨rfl, hb1⟩
  have hz_hb1 := hb1.size; (try simp at hz_hb1)
  have HB1 := Lib.hid hb1; clear hb1
  go_wp2_with fail
  refine (HN.out _).mono ?_
  rintro e w2 ⟨v, rfl, hr, hb2⟩
  have hz_hb2 := hb2.size; (try simp at hz_hb2)
  have HR := Lib.hid hr; clear hr
  have HB2 := Lib.hid hb2; clear hb2
  go_wp2
  go_ret2
  have hb1 := HB1.out
  have hb2 := HB2.out
  exact ⟨_, rfl, HR.out.mono (by simp; omega), by (repeat' (first | (with_reducible assumption) | (with_reducible exact Below.refl _ _) | (with_reducible refine below_drewN ?_ _) | (with_reducible refine Below.drew ?_) | (with_reducible refine Below.alloc ?_ ?_ _) | (with_reducible refine Below.setCell ?_ ?_ _) | (with_reducible refine Below.trans ?_ (Below.mono (by assumption) ?_)) | (with_reducible exact Nat.le_refl _) | (with_reducible assumption) | omega | (simp; omega) | (simp; done)))⟩
theorem impl_SquaresOf_no (q : Int) (w : World) (h : isSz q = false) :
    Calls Try.prog 27 #[.int .i64 q] w fun e w' => e = .returned (.tuple #[.slice none 0 0, .bool false]) ∧ Below w.heap.size w w' := by
  have HF := Lib.hid (fun w => fieldOf_no q w h)
  clear h
  go_enter Try.func27, Try.ntmps27
  go_wp2_with fail
  refine (HF.out _).mono ?_
  rintro e w1 ⟨rfl, hb1⟩
  have hz_hb1 := hb1.size; (try simp at hz_hb1)
  have HB1 := Lib.hid hb1; clear hb1
  go_wp2_with fail
  go_ret2
  have hb1 := HB1.out
  exact ⟨rfl, by (repeat' (first | (with_reducible assumption) | (with_reducible exact Below.refl _ _) | (with_reducible refine below_drewN ?_ _) | (with_reducible refine Below.drew ?_) | (with_reducible refine Below.alloc ?_ ?_ _) | (with_reducible refine Below.setCell ?_ ?_ _) | (with_reducible refine Below.trans ?_ (Below.mono (by assumption) ?_)) | (with_reducible exact Nat.le_refl _) | (with_reducible assumption) | omega | (simp; omega) | (simp; done)))⟩
set_option maxRecDepth 100000 in
set_option maxHeartbeats 2000000 in
/-- laws.FnExactSquaresOf. -/
theorem walk_FnExactSquaresOf (q : Int) (_h : (Lit.int .i64 q).wf = true) (w : World) :
    Calls Try.prog 8 #[.int .i64 q] w fun e w' => e = .returned (.bool true) ∧ Below w.heap.size w w' := by
  have key : ∃ (l : List Int) (o : Bool), l.length ≤ 100 ∧ (∀ w, Calls Try.prog 26 #[.int .i64 q] w fun e w' => ∃ v, e = .returned (.tuple #[v, .bool o]) ∧ Row w' w.heap.size v l ∧ Below w.heap.size w w') ∧
      (∀ w, Calls Try.prog 27 #[.int .i64 q] w fun e w' => ∃ v, e = .returned (.tuple #[v, .bool o]) ∧ Row w' w.heap.size v l ∧ Below w.heap.size w w') := by
    cases h : isSz q with
    | true => exact ⟨wh (isSqN q) q.toNat, true, by have h1 := isSz_le q h; have h2 := wh_len (isSqN q) q.toNat; omega, fun w => (show wh (isSqN q) q.toNat = _ from (sq_model q h).symm) ▸ spec_SquaresOf_yes q w h, fun w => impl_SquaresOf_yes q w h⟩
    | false => exact ⟨[], false, by simp, fun w => (spec_SquaresOf_no q w h).mono fun _ _ ⟨he, hb⟩ => ⟨_, he, Row.nil _ _, hb⟩, fun w => (impl_SquaresOf_no q w h).mono fun _ _ ⟨he, hb⟩ => ⟨_, he, Row.nil _ _, hb⟩⟩
  obtain ⟨l, o, hl, k1, k2⟩ := key
  have K1 := Lib.hid k1; clear k1
  have K2 := Lib.hid k2; clear k2
  clear _h
  go_enter Try.func8, Try.ntmps8
  go_wp2_with fail
  refine (K1.out _).mono ?_
  rintro e w1 ⟨v1, rfl, hr1, hb1⟩
  have hz_hb1 := hb1.size; (try simp at hz_hb1)
  have HR1 := Lib.hid hr1; clear hr1
  have HB1 := Lib.hid hb1; clear hb1
  go_wp2_with fail
  refine (K2.out _).mono ?_
  rintro e w2 ⟨v2, rfl, hr2, hb2⟩
  have hz_hb2 := hb2.size; (try simp at hz_hb2)
  have HR1b := Lib.hid (HR1.out.below hb2)
  have HR2 := Lib.hid hr2; clear hr2
  have HB2 := Lib.hid hb2; clear hb2
  go_wp2_with fail
  refine (eq_same v2 v1 l _ _ _ HR2.out HR1b.out (by omega)).mono ?_
  rintro e w3 ⟨rfl, hb3⟩
  have hz_hb3 := hb3.size; (try simp at hz_hb3)
  have HR1c := Lib.hid (HR1b.out.below hb3)
  have HR2c := Lib.hid (HR2.out.below hb3)
  have HB3 := Lib.hid hb3; clear hb3
  go_wp2_with fail
  refine (mark_any v2 l _ 1 _ HR2c.out (by omega) (by decide) (by decide)).mono ?_
  rintro e w4 ⟨rfl, hr4, hg4⟩
  have hz4 := hg4.size
  have HR1d := Lib.hid (HR1c.out.keep (w' := w4) fun g hg => hg4.block g (HR1c.out.lt g hg).2 fun e => by have h1 := (HR1.out.lt g hg).2; have h2 := (HR2c.out.lt g e.symm).1; omega)
  have HB4 : Hid (Below w.heap.size w w4) := Lib.hid (Below.grown (by have hb1 := HB1.out; have hb2 := HB2.out; have hb3 := HB3.out; (repeat' (first | (with_reducible assumption) | (with_reducible exact Below.refl _ _) | (with_reducible refine below_drewN ?_ _) | (with_reducible refine Below.drew ?_) | (with_reducible refine Below.alloc ?_ ?_ _) | (with_reducible refine Below.setCell ?_ ?_ _) | (with_reducible refine Below.trans ?_ (Below.mono (by assumption) ?_)) | (with_reducible exact Nat.le_refl _) | (with_reducible assumption) | omega | (simp; omega) | (simp; done)))) hg4 (by omega) (fun g e => by have := (HR2c.out.lt g e).1; omega))
  have HR4 := Lib.hid hr4; clear hr4
  clear hg4
  go_wp2_with fail
  refine (held_any v2 l.length _ 1 _ HR4.out (by omega) (by decide) (by decide)).mono ?_
  rintro e w5 ⟨rfl, rfl⟩
  go_wp2_with fail
  refine (K2.out _).mono ?_
  rintro e w6 ⟨v6, rfl, hr6, hb6⟩
  have hz_hb6 := hb6.size; (try simp at hz_hb6)
  have HR1e := Lib.hid (HR1d.out.below hb6)
  have HR4e := Lib.hid (HR4.out.below hb6)
  have HR6 := Lib.hid hr6; clear hr6
  have HB6 := Lib.hid hb6; clear hb6
  go_wp2_with fail
  refine (eq_same v6 v1 l _ _ _ HR6.out HR1e.out (by omega)).mono ?_
  rintro e w7 ⟨rfl, hb7⟩
  have hz_hb7 := hb7.size; (try simp at hz_hb7)
  have HR4f := Lib.hid (HR4e.out.below hb7)
  have HB7 := Lib.hid hb7; clear hb7
  go_wp2_with fail
  refine (held_any v2 l.length _ 1 _ HR4f.out (by omega) (by decide) (by decide)).mono ?_
  rintro e w8 ⟨rfl, rfl⟩
  go_wp2
  go_ret
  have hb4 := HB4.out
  have hb6 := HB6.out
  have hb7 := HB7.out
  exact ⟨rfl, by (repeat' (first | (with_reducible assumption) | (with_reducible exact Below.refl _ _) | (with_reducible refine below_drewN ?_ _) | (with_reducible refine Below.drew ?_) | (with_reducible refine Below.alloc ?_ ?_ _) | (with_reducible refine Below.setCell ?_ ?_ _) | (with_reducible refine Below.trans ?_ (Below.mono (by assumption) ?_)) | (with_reducible exact Nat.le_refl _) | (with_reducible assumption) | omega | (simp; omega) | (simp; done)))⟩

set_option maxHeartbeats 1000000 in
theorem impl_SubfieldOf_yes (q r : Int) (w : World) (h : isSz q = true) (h' : isSz r = true) (hp : pr q = pr r) (hd : plN q % plN r = 0) :
    Calls Try.prog 25 #[.int .i64 q, .int .i64 r] w fun e w' => ∃ v, e = .returned (.tuple #[v, .bool true]) ∧ Row w' w.heap.size v (wh (isFix q r) q.toNat) ∧ Below w.heap.size w w' := by
  have hr := isSz_le r h'
  have hk := plN_bd r h'
  have HF := Lib.hid (fun w => fieldOf_yes q w h)
  have HF' := Lib.hid (fun w => fieldOf_yes r w h')
  have HN := Lib.hid (fun w R => numbersWhere_sub q w h r R (by omega) (by omega))
  have hne : (pr r != pr q) = false := by simp [hp]
  have hpl : pl q % pl r = 0 := by unfold pl; omega
  have hl0 : 0 ≤ pl q := by unfold pl; omega
  have hl1 : 0 < pl r := by unfold pl; omega
  clear h h' hp hd hk hr
  go_enter Try.func25, Try.ntmps25
  go_wp2_with fail
  refine (HF.out _).mono ?_
  rintro e w1 ⟨rfl, hb1⟩
  obtain ⟨hc1, hf1⟩ := bcell hb1; have hz1 := hb1.size; (try simp at hz1); have HB1 := Lib.hid hb1; clear hb1
  have l1 : w.heap.size < w1.heap.size := by omega
  go_wp2_with fail
  refine (HF'.out _).mono ?_
  rintro e w2 ⟨rfl, hb2⟩
  obtain ⟨hc2, hf2⟩ := bcell hb2; have hz2 := hb2.size; (try simp at hz2); have HB2 := Lib.hid hb2; clear hb2
  have l2 : w.heap.size < w2.heap.size := by omega
  have l3 : w1.heap.size < w2.heap.size := by omega
  go_wp2_with fail
  refine (HN.out _ w.heap.size ?d1 ?d2).mono ?_
  case d1 => simp; omega
  case d2 =>
    have hb1 := HB1.out
    have hb2 := HB2.out
    rw [World.cell?_alloc_past _ _ _ (by omega), hc2 _ _ (by simp; omega), World.cell?_alloc_past _ _ _ (by omega), hc1 _ _ (by simp), World.cell?_alloc_at _ _ _ _ rfl]
    rfl
  rintro e w3 ⟨v, rfl, hr, hb3⟩
  have hz_hb3 := hb3.size; (try simp at hz_hb3)
  have HR := Lib.hid hr; clear hr
  have HB3 := Lib.hid hb3; clear hb3
  go_wp2
  go_ret2
  have hb1 := HB1.out
  have hb2 := HB2.out
  have hb3 := HB3.out
  exact ⟨_, rfl, HR.out.mono (by simp; omega), by (repeat' (first | (with_reducible assumption) | (with_reducible exact Below.refl _ _) | (with_reducible refine below_drewN ?_ _) | (with_reducible refine Below.drew ?_) | (with_reducible refine Below.alloc ?_ ?_ _) | (with_reducible refine Below.setCell ?_ ?_ _) | (with_reducible refine Below.trans ?_ (Below.mono (by assumption) ?_)) | (with_reducible exact Nat.le_refl _) | (with_reducible assumption) | omega | (simp; omega) | (simp; done)))⟩
theorem impl_SubfieldOf_no (q r : Int) (w : World) (hn : subOk q r = false) :
    Calls Try.prog 25 #[.int .i64 q, .int .i64 r] w fun e w' => e = .returned (.tuple #[.slice none 0 0, .bool false]) ∧ Below w.heap.size w w' := by
  cases h : isSz q with
  | false =>
    have HF := Lib.hid (fun w => fieldOf_no q w h)
    clear hn h
    go_enter Try.func25, Try.ntmps25
    go_wp2_with fail
    refine (HF.out _).mono ?_
    rintro e w1 ⟨rfl, hb1⟩
    have hz_hb1 := hb1.size; (try simp at hz_hb1)
    have HB1 := Lib.hid hb1; clear hb1
    go_wp2_with fail
    go_ret2
    have hb1 := HB1.out
    exact ⟨rfl, by (repeat' (first | (with_reducible assumption) | (with_reducible exact Below.refl _ _) | (with_reducible refine below_drewN ?_ _) | (with_reducible refine Below.drew ?_) | (with_reducible refine Below.alloc ?_ ?_ _) | (with_reducible refine Below.setCell ?_ ?_ _) | (with_reducible refine Below.trans ?_ (Below.mono (by assumption) ?_)) | (with_reducible exact Nat.le_refl _) | (with_reducible assumption) | omega | (simp; omega) | (simp; done)))⟩
  | true =>
    have HF := Lib.hid (fun w => fieldOf_yes q w h)
    cases h' : isSz r with
    | false =>
      have HF' := Lib.hid (fun w => fieldOf_no r w h')
      clear hn h h'
      go_enter Try.func25, Try.ntmps25
      go_wp2_with fail
      refine (HF.out _).mono ?_
      rintro e w1 ⟨rfl, hb1⟩
      obtain ⟨hc1, hf1⟩ := bcell hb1; have hz1 := hb1.size; (try simp at hz1); have HB1 := Lib.hid hb1; clear hb1
      have l1 : w.heap.size < w1.heap.size := by omega
      go_wp2_with fail
      refine (HF'.out _).mono ?_
      rintro e w2 ⟨rfl, hb2⟩
      have hz_hb2 := hb2.size; (try simp at hz_hb2)
      have HB2 := Lib.hid hb2; clear hb2
      go_wp2_with fail
      go_ret2
      have hb1 := HB1.out
      have hb2 := HB2.out
      exact ⟨rfl, by (repeat' (first | (with_reducible assumption) | (with_reducible exact Below.refl _ _) | (with_reducible refine below_drewN ?_ _) | (with_reducible refine Below.drew ?_) | (with_reducible refine Below.alloc ?_ ?_ _) | (with_reducible refine Below.setCell ?_ ?_ _) | (with_reducible refine Below.trans ?_ (Below.mono (by assumption) ?_)) | (with_reducible exact Nat.le_refl _) | (with_reducible assumption) | omega | (simp; omega) | (simp; done)))⟩
    | true =>
      have hk := plN_bd r h'
      have HF' := Lib.hid (fun w => fieldOf_yes r w h')
      have hl0 : 0 ≤ pl q := by unfold pl; omega
      have hl1 : 0 < pl r := by unfold pl; omega
      cases hp : pr q == pr r with
      | false =>
        have hne : (pr r != pr q) = true := by
          rw [beq_eq_false_iff_ne] at hp
          rw [bne_iff_ne]
          exact fun e => hp e.symm
        clear hn h h' hp hk
        go_enter Try.func25, Try.ntmps25
        go_wp2_with fail
        refine (HF.out _).mono ?_
        rintro e w1 ⟨rfl, hb1⟩
        obtain ⟨hc1, hf1⟩ := bcell hb1; have hz1 := hb1.size; (try simp at hz1); have HB1 := Lib.hid hb1; clear hb1
        have l1 : w.heap.size < w1.heap.size := by omega
        go_wp2_with fail
        refine (HF'.out _).mono ?_
        rintro e w2 ⟨rfl, hb2⟩
        obtain ⟨hc2, hf2⟩ := bcell hb2; have hz2 := hb2.size; (try simp at hz2); have HB2 := Lib.hid hb2; clear hb2
        have l2 : w.heap.size < w2.heap.size := by omega
        have l3 : w1.heap.size < w2.heap.size := by omega
        go_wp2_with fail
        go_ret2
        have hb1 := HB1.out
        have hb2 := HB2.out
        exact ⟨rfl, by (repeat' (first | (with_reducible assumption) | (with_reducible exact Below.refl _ _) | (with_reducible refine below_drewN ?_ _) | (with_reducible refine Below.drew ?_) | (with_reducible refine Below.alloc ?_ ?_ _) | (with_reducible refine Below.setCell ?_ ?_ _) | (with_reducible refine Below.trans ?_ (Below.mono (by assumption) ?_)) | (with_reducible exact Nat.le_refl _) | (with_reducible assumption) | omega | (simp; omega) | (simp; done)))⟩
      | true =>
        have hne : (pr r != pr q) = false := by
          rw [beq_iff_eq] at hp
          simp [hp]
        have hpl : (pl q % pl r != 0) = true := by
          simp only [subOk, h, h', hp, Bool.true_and, beq_eq_false_iff_ne] at hn
          unfold pl
          rw [bne_iff_ne]
          omega
        clear hn h h' hp hk
        go_enter Try.func25, Try.ntmps25
        go_wp2_with fail
        refine (HF.out _).mono ?_
        rintro e w1 ⟨rfl, hb1⟩
        obtain ⟨hc1, hf1⟩ := bcell hb1; have hz1 := hb1.size; (try simp at hz1); have HB1 := Lib.hid hb1; clear hb1
        have l1 : w.heap.size < w1.heap.size := by omega
        go_wp2_with fail
        refine (HF'.out _).mono ?_
        rintro e w2 ⟨rfl, hb2⟩
        obtain ⟨hc2, hf2⟩ := bcell hb2; have hz2 := hb2.size; (try simp at hz2); have HB2 := Lib.hid hb2; clear hb2
        have l2 : w.heap.size < w2.heap.size := by omega
        have l3 : w1.heap.size < w2.heap.size := by omega
        go_wp2_with fail
        go_ret2
        have hb1 := HB1.out
        have hb2 := HB2.out
        exact ⟨rfl, by (repeat' (first | (with_reducible assumption) | (with_reducible exact Below.refl _ _) | (with_reducible refine below_drewN ?_ _) | (with_reducible refine Below.drew ?_) | (with_reducible refine Below.alloc ?_ ?_ _) | (with_reducible refine Below.setCell ?_ ?_ _) | (with_reducible refine Below.trans ?_ (Below.mono (by assumption) ?_)) | (with_reducible exact Nat.le_refl _) | (with_reducible assumption) | omega | (simp; omega) | (simp; done)))⟩
set_option maxRecDepth 100000 in
set_option maxHeartbeats 2000000 in
/-- laws.FnExactSubfieldOf. -/
theorem walk_FnExactSubfieldOf (q r : Int) (_h : (Lit.int .i64 q).wf = true) (_h1 : (Lit.int .i64 r).wf = true) (w : World) :
    Calls Try.prog 7 #[.int .i64 q, .int .i64 r] w fun e w' => e = .returned (.bool true) ∧ Below w.heap.size w w' := by
  have key : ∃ (l : List Int) (o : Bool), l.length ≤ 100 ∧ (∀ w, Calls Try.prog 24 #[.int .i64 q, .int .i64 r] w fun e w' => ∃ v, e = .returned (.tuple #[v, .bool o]) ∧ Row w' w.heap.size v l ∧ Below w.heap.size w w') ∧
      (∀ w, Calls Try.prog 25 #[.int .i64 q, .int .i64 r] w fun e w' => ∃ v, e = .returned (.tuple #[v, .bool o]) ∧ Row w' w.heap.size v l ∧ Below w.heap.size w w') := by
    cases ho : subOk q r with
    | true =>
      have ho' := ho
      simp only [subOk, Bool.and_eq_true, beq_iff_eq] at ho'
      obtain ⟨h, h', hp, hd⟩ := ho'
      exact ⟨_, _, by have h1 := isSz_le q h; have h2 := wh_len (isFix' q r) q.toNat; omega, fun w => spec_SubfieldOf_yes q r w h h' hp hd, fun w => impl_SubfieldOf_yes q r w h h' hp hd⟩
    | false => exact ⟨[], false, by simp, fun w => (spec_SubfieldOf_no q r w ho).mono fun _ _ ⟨he, hb⟩ => ⟨_, he, Row.nil _ _, hb⟩, fun w => (impl_SubfieldOf_no q r w ho).mono fun _ _ ⟨he, hb⟩ => ⟨_, he, Row.nil _ _, hb⟩⟩
  obtain ⟨l, o, hl, k1, k2⟩ := key
  have K1 := Lib.hid k1; clear k1
  have K2 := Lib.hid k2; clear k2
  clear _h _h1
  go_enter Try.func7, Try.ntmps7
  go_wp2_with fail
  refine (K1.out _).mono ?_
  rintro e w1 ⟨v1, rfl, hr1, hb1⟩
  have hz_hb1 := hb1.size; (try simp at hz_hb1)
  have HR1 := Lib.hid hr1; clear hr1
  have HB1 := Lib.hid hb1; clear hb1
  go_wp2_with fail
  refine (K2.out _).mono ?_
  rintro e w2 ⟨v2, rfl, hr2, hb2⟩
  have hz_hb2 := hb2.size; (try simp at hz_hb2)
  have HR1b := Lib.hid (HR1.out.below hb2)
  have HR2 := Lib.hid hr2; clear hr2
  have HB2 := Lib.hid hb2; clear hb2
  go_wp2_with fail
  refine (eq_same v2 v1 l _ _ _ HR2.out HR1b.out (by omega)).mono ?_
  rintro e w3 ⟨rfl, hb3⟩
  have hz_hb3 := hb3.size; (try simp at hz_hb3)
  have HR1c := Lib.hid (HR1b.out.below hb3)
  have HR2c := Lib.hid (HR2.out.below hb3)
  have HB3 := Lib.hid hb3; clear hb3
  go_wp2_with fail
  refine (mark_any v2 l _ 1 _ HR2c.out (by omega) (by decide) (by decide)).mono ?_
  rintro e w4 ⟨rfl, hr4, hg4⟩
  have hz4 := hg4.size
  have HR1d := Lib.hid (HR1c.out.keep (w' := w4) fun g hg => hg4.block g (HR1c.out.lt g hg).2 fun e => by have h1 := (HR1.out.lt g hg).2; have h2 := (HR2c.out.lt g e.symm).1; omega)
  have HB4 : Hid (Below w.heap.size w w4) := Lib.hid (Below.grown (by have hb1 := HB1.out; have hb2 := HB2.out; have hb3 := HB3.out; (repeat' (first | (with_reducible assumption) | (with_reducible exact Below.refl _ _) | (with_reducible refine below_drewN ?_ _) | (with_reducible refine Below.drew ?_) | (with_reducible refine Below.alloc ?_ ?_ _) | (with_reducible refine Below.setCell ?_ ?_ _) | (with_reducible refine Below.trans ?_ (Below.mono (by assumption) ?_)) | (with_reducible exact Nat.le_refl _) | (with_reducible assumption) | omega | (simp; omega) | (simp; done)))) hg4 (by omega) (fun g e => by have := (HR2c.out.lt g e).1; omega))
  have HR4 := Lib.hid hr4; clear hr4
  clear hg4
  go_wp2_with fail
  refine (held_any v2 l.length _ 1 _ HR4.out (by omega) (by decide) (by decide)).mono ?_
  rintro e w5 ⟨rfl, rfl⟩
  go_wp2_with fail
  refine (K2.out _).mono ?_
  rintro e w6 ⟨v6, rfl, hr6, hb6⟩
  have hz_hb6 := hb6.size; (try simp at hz_hb6)
  have HR1e := Lib.hid (HR1d.out.below hb6)
  have HR4e := Lib.hid (HR4.out.below hb6)
  have HR6 := Lib.hid hr6; clear hr6
  have HB6 := Lib.hid hb6; clear hb6
  go_wp2_with fail
  refine (eq_same v6 v1 l _ _ _ HR6.out HR1e.out (by omega)).mono ?_
  rintro e w7 ⟨rfl, hb7⟩
  have hz_hb7 := hb7.size; (try simp at hz_hb7)
  have HR4f := Lib.hid (HR4e.out.below hb7)
  have HB7 := Lib.hid hb7; clear hb7
  go_wp2_with fail
  refine (held_any v2 l.length _ 1 _ HR4f.out (by omega) (by decide) (by decide)).mono ?_
  rintro e w8 ⟨rfl, rfl⟩
  go_wp2
  go_ret
  have hb4 := HB4.out
  have hb6 := HB6.out
  have hb7 := HB7.out
  exact ⟨rfl, by (repeat' (first | (with_reducible assumption) | (with_reducible exact Below.refl _ _) | (with_reducible refine below_drewN ?_ _) | (with_reducible refine Below.drew ?_) | (with_reducible refine Below.alloc ?_ ?_ _) | (with_reducible refine Below.setCell ?_ ?_ _) | (with_reducible refine Below.trans ?_ (Below.mono (by assumption) ?_)) | (with_reducible exact Nat.le_refl _) | (with_reducible assumption) | omega | (simp; omega) | (simp; done)))⟩
end Go.Proofs.Ythklnfanbegecaa
