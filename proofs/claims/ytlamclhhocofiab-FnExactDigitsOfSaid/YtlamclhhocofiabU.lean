/- The walk of the law of digits. -/
import Derived.Test.YtlamclhhocofiabKE
import Derived.Test.YtlamclhhocofiabKC
namespace Go.Proofs.Ytlamclhhocofiab
open Go.RowKit

/-- spec.DigitsOf. -/
theorem spec_DigitsOf_yes (q a : Int) (w : World) (ha : inE q a = true) :
    Calls Try.prog 27 #[.int .i64 q, .int .i64 a] w fun e w' => ∃ v, e = .returned (.tuple #[v, .bool true]) ∧ Row w' w.heap.size v (digs (plN q) (pr q) a) ∧ Below w.heap.size w w' := by
  have HC := Lib.hid (fun w => fdDigits_any q a w (inE_yes ha).1 (inE_yes ha).2.1 (inE_yes ha).2.2)
  go_enter Try.func27, Try.ntmps27
  go_wp2_with fail
  refine (fdIn_any _ _ _).mono ?_
  rintro e w1 ⟨rfl, hb1⟩
  have hz_hb1 := hb1.size; (try simp at hz_hb1)
  go_wp2_with fail
  refine (HC.out _).mono ?_
  rintro e w2 ⟨v, rfl, hr, hb2⟩
  have hz_hb2 := hb2.size; (try simp at hz_hb2)
  have HR := Lib.hid hr; clear hr
  go_wp2
  go_ret2
  exact ⟨_, rfl, HR.out.mono hz_hb1, by (repeat' (first | (with_reducible assumption) | (with_reducible exact Below.refl _ _) | (with_reducible refine below_drewN ?_ _) | (with_reducible refine Below.drew ?_) | (with_reducible refine Below.alloc ?_ ?_ _) | (with_reducible refine Below.setCell ?_ ?_ _) | (with_reducible refine Below.trans ?_ (Below.mono (by assumption) ?_)) | (with_reducible exact Nat.le_refl _) | (with_reducible assumption) | omega | (simp; omega) | (simp; done)))⟩
theorem spec_DigitsOf_no (q a : Int) (w : World) (ha : inE q a = false) :
    Calls Try.prog 27 #[.int .i64 q, .int .i64 a] w fun e w' => e = .returned (.tuple #[.slice none 0 0, .bool false]) ∧ Below w.heap.size w w' := by
  go_enter Try.func27, Try.ntmps27
  go_wp2_with fail
  refine (fdIn_any _ _ _).mono ?_
  rintro e w1 ⟨rfl, hb1⟩
  have hz_hb1 := hb1.size; (try simp at hz_hb1)
  go_wp2_with fail
  go_ret2
  exact ⟨rfl, by (repeat' (first | (with_reducible assumption) | (with_reducible exact Below.refl _ _) | (with_reducible refine below_drewN ?_ _) | (with_reducible refine Below.drew ?_) | (with_reducible refine Below.alloc ?_ ?_ _) | (with_reducible refine Below.setCell ?_ ?_ _) | (with_reducible refine Below.trans ?_ (Below.mono (by assumption) ?_)) | (with_reducible exact Nat.le_refl _) | (with_reducible assumption) | omega | (simp; omega) | (simp; done)))⟩

theorem dg_get (q a : Int) (j : Nat) : (digs (plN q) (pr q) a)[j]?.getD 0 = dg q a j := by simp [dg, List.getD]
set_option maxHeartbeats 1000000 in
/-- impl.element.digitList. -/
theorem digitListE (q a : Int) (w : World) (h : isSz q = true) :
    Calls Try.prog 63 #[elE q a] w fun e w' => ∃ v, e = .returned v ∧ Row w' w.heap.size v (digs (plN q) (pr q) a) ∧ Below w.heap.size w w' := by
  obtain ⟨i0, hi, hz0, hz1, hz2⟩ := info_parts Try.infoI
  have hk := plN_bd q h
  have HL := Lib.hid (digs_len (plN q) (pr q) a)
  have HG := Lib.hid (dg_get q a)
  have HBB : Hid (∀ o, Below w.heap.size w (w.alloc o)) := Lib.hid fun o => (Below.refl _ w).alloc (Nat.le_refl _) o
  unfold elE pl
  clear h
  generalize digs (plN q) (pr q) a = l at *
  generalize plN q = k at *
  generalize pr q = p at *
  obtain ⟨hk1, hk4⟩ := hk
  have hki0 : (0 : Int) ≤ (k : Int) := by omega
  have hki4 : (k : Int) ≤ 4 := by omega
  go_enter Try.func63, Try.ntmps63
  go_wp2_with (at_builtin; refine wpList_append_own _ rfl _ _ 22 rfl w.heap.size 3 i0 (.int .i64 0) 1 8 Try.underlying22 hi hz0 hz1 hz2 rfl (by decide) (.slice none 0 0) 0 [] rfl (World.ownsRow_nil _ _ _ _) ⟨w.heap.size, 3, none⟩ k 4 (l.map (Value.int .i64)) rfl ?d1 ?c1 ?c2 ?c3 ?c4 ?c5 ?_)
  case d1 => simp [HL.out]
  case c1 =>
    intro j u hu
    rw [List.getElem?_map] at hu
    obtain ⟨x, hx, rfl⟩ := Option.map_eq_some_iff.1 hu
    have hj : j < 4 := by
      have := (List.getElem?_eq_some_iff.1 hx).1
      rw [HL.out] at this
      omega
    have hg := HG.out j
    rw [hx] at hg
    simp only [Option.getD_some] at hg
    subst hg
    have hs : j = 0 ∨ j = 1 ∨ j = 2 ∨ j = 3 := by omega
    rcases hs with rfl | rfl | rfl | rfl
    all_goals
      refine (World.cell?_alloc_at _ _ _ _ rfl).trans ?_
      rfl
  case c2 =>
    intro u hu
    obtain ⟨x, _, rfl⟩ := List.mem_map.1 hu
    rfl
  case c3 => unfold maxLen; omega
  case c4 => omega
  case c5 => simp
  intro v' w2 hown hgrow _
  have hr : Row w2 w.heap.size v' l := by
    unfold Row
    rw [HL.out]
    exact hown
  have hb2 : Below w.heap.size w w2 := Below.grown (HBB.out _) hgrow (by simp) (fun g hg => by simp [Value.ownBlock] at hg)
  have HR := Lib.hid hr
  have HB2 := Lib.hid hb2
  clear hr hb2 hown hgrow
  go_wp2
  go_ret
  exact ⟨_, rfl, HR.out, HB2.out⟩
/-- impl.DigitsOf. -/
theorem impl_DigitsOf_yes (q a : Int) (w : World) (ha : inE q a = true) :
    Calls Try.prog 28 #[.int .i64 q, .int .i64 a] w fun e w' => ∃ v, e = .returned (.tuple #[v, .bool true]) ∧ Row w' w.heap.size v (digs (plN q) (pr q) a) ∧ Below w.heap.size w w' := by
  have HC := Lib.hid (fun w => elementOf_yes q a w ha)
  have HD := Lib.hid (fun w => digitListE q a w (inE_yes ha).1)
  clear ha
  go_enter Try.func28, Try.ntmps28
  go_wp2_with fail
  refine (HC.out _).mono ?_
  rintro e w1 ⟨rfl, hb1⟩
  have hz_hb1 := hb1.size; (try simp at hz_hb1)
  have HB1 := Lib.hid hb1; clear hb1
  go_wp2_with fail
  refine (HD.out _).mono ?_
  rintro e w2 ⟨v, rfl, hr, hb2⟩
  have HR := Lib.hid hr; clear hr
  have HB2 := Lib.hid hb2; clear hb2
  go_wp2
  go_ret2
  have hb1 := HB1.out
  have hb2 := HB2.out
  exact ⟨_, rfl, HR.out.mono (by simp; omega), by (repeat' (first | (with_reducible assumption) | (with_reducible exact Below.refl _ _) | (with_reducible refine below_drewN ?_ _) | (with_reducible refine Below.drew ?_) | (with_reducible refine Below.alloc ?_ ?_ _) | (with_reducible refine Below.setCell ?_ ?_ _) | (with_reducible refine Below.trans ?_ (Below.mono (by assumption) ?_)) | (with_reducible exact Nat.le_refl _) | (with_reducible assumption) | omega | (simp; omega) | (simp; done)))⟩
theorem impl_DigitsOf_no (q a : Int) (w : World) (ha : inE q a = false) :
    Calls Try.prog 28 #[.int .i64 q, .int .i64 a] w fun e w' => e = .returned (.tuple #[.slice none 0 0, .bool false]) ∧ Below w.heap.size w w' := by
  have HC := Lib.hid (fun w => elementOf_no q a w ha)
  clear ha
  go_enter Try.func28, Try.ntmps28
  go_wp2_with fail
  refine (HC.out _).mono ?_
  rintro e w1 ⟨rfl, hb1⟩
  have hz_hb1 := hb1.size; (try simp at hz_hb1)
  have HB1 := Lib.hid hb1; clear hb1
  go_wp2_with fail
  go_ret2
  have hb1 := HB1.out
  exact ⟨rfl, by (repeat' (first | (with_reducible assumption) | (with_reducible exact Below.refl _ _) | (with_reducible refine below_drewN ?_ _) | (with_reducible refine Below.drew ?_) | (with_reducible refine Below.alloc ?_ ?_ _) | (with_reducible refine Below.setCell ?_ ?_ _) | (with_reducible refine Below.trans ?_ (Below.mono (by assumption) ?_)) | (with_reducible exact Nat.le_refl _) | (with_reducible assumption) | omega | (simp; omega) | (simp; done)))⟩

set_option maxRecDepth 100000 in
set_option maxHeartbeats 2000000 in
/-- laws.FnExactDigitsOf. -/
theorem walk_FnExactDigitsOf (q a : Int) (_h : (Lit.int .i64 q).wf = true) (_h1 : (Lit.int .i64 a).wf = true) (w : World) :
    Calls Try.prog 9 #[.int .i64 q, .int .i64 a] w fun e w' => e = .returned (.bool true) ∧ Below w.heap.size w w' := by
  have key : ∃ (l : List Int) (o : Bool), l.length ≤ 100 ∧ (∀ w, Calls Try.prog 27 #[.int .i64 q, .int .i64 a] w fun e w' => ∃ v, e = .returned (.tuple #[v, .bool o]) ∧ Row w' w.heap.size v l ∧ Below w.heap.size w w') ∧
      (∀ w, Calls Try.prog 28 #[.int .i64 q, .int .i64 a] w fun e w' => ∃ v, e = .returned (.tuple #[v, .bool o]) ∧ Row w' w.heap.size v l ∧ Below w.heap.size w w') := by
    cases ha : inE q a with
    | true => exact ⟨_, _, by rw [digs_len]; have := plN_bd q (inE_yes ha).1; omega, fun w => spec_DigitsOf_yes q a w ha, fun w => impl_DigitsOf_yes q a w ha⟩
    | false => exact ⟨[], false, by simp, fun w => (spec_DigitsOf_no q a w ha).mono fun _ _ ⟨he, hb⟩ => ⟨_, he, Row.nil _ _, hb⟩, fun w => (impl_DigitsOf_no q a w ha).mono fun _ _ ⟨he, hb⟩ => ⟨_, he, Row.nil _ _, hb⟩⟩
  obtain ⟨l, o, hl, k1, k2⟩ := key
  have K1 := Lib.hid k1; clear k1
  have K2 := Lib.hid k2; clear k2
  clear _h _h1
  go_enter Try.func9, Try.ntmps9
  go_wp2_with fail
  refine (K1.out _).mono ?_
  rintro e w1 ⟨v1, rfl, hr1, hb1⟩
  have hz_hb1 := hb1.size; (try simp at hz_hb1)
  have HR1 := Lib.hid hr1; clear hr1
  have HB1 := Lib.hid hb1; clear hb1
  go_wp2_with fail
  refine (K2.out _).mono ?_
  rintro e w2 ⟨v2, rfl, hr2, hb2⟩
  have hz_hb2 := hb2.size; (try simp at hz_hb2)
  have HR1b := Lib.hid (HR1.out.below hb2)
  have HR2 := Lib.hid hr2; clear hr2
  have HB2 := Lib.hid hb2; clear hb2
  go_wp2_with fail
  refine (eq_same v2 v1 l _ _ _ HR2.out HR1b.out (by omega)).mono ?_
  rintro e w3 ⟨rfl, hb3⟩
  have hz_hb3 := hb3.size; (try simp at hz_hb3)
  have HR1c := Lib.hid (HR1b.out.below hb3)
  have HR2c := Lib.hid (HR2.out.below hb3)
  have HB3 := Lib.hid hb3; clear hb3
  go_wp2_with fail
  refine (mark_any v2 l _ 1 _ HR2c.out (by omega) (by decide) (by decide)).mono ?_
  rintro e w4 ⟨rfl, hr4, hg4⟩
  have hz4 := hg4.size
  have HR1d := Lib.hid (HR1c.out.keep (w' := w4) fun g hg => hg4.block g (HR1c.out.lt g hg).2 fun e => by have h1 := (HR1.out.lt g hg).2; have h2 := (HR2c.out.lt g e.symm).1; omega)
  have HB4 : Hid (Below w.heap.size w w4) := Lib.hid (Below.grown (by have hb1 := HB1.out; have hb2 := HB2.out; have hb3 := HB3.out; (repeat' (first | (with_reducible assumption) | (with_reducible exact Below.refl _ _) | (with_reducible refine below_drewN ?_ _) | (with_reducible refine Below.drew ?_) | (with_reducible refine Below.alloc ?_ ?_ _) | (with_reducible refine Below.setCell ?_ ?_ _) | (with_reducible refine Below.trans ?_ (Below.mono (by assumption) ?_)) | (with_reducible exact Nat.le_refl _) | (with_reducible assumption) | omega | (simp; omega) | (simp; done)))) hg4 (by omega) (fun g e => by have := (HR2c.out.lt g e).1; omega))
  have HR4 := Lib.hid hr4; clear hr4
  clear hg4
  go_wp2_with fail
  refine (held_any v2 l.length _ 1 _ HR4.out (by omega) (by decide) (by decide)).mono ?_
  rintro e w5 ⟨rfl, rfl⟩
  go_wp2_with fail
  refine (K2.out _).mono ?_
  rintro e w6 ⟨v6, rfl, hr6, hb6⟩
  have hz_hb6 := hb6.size; (try simp at hz_hb6)
  have HR1e := Lib.hid (HR1d.out.below hb6)
  have HR4e := Lib.hid (HR4.out.below hb6)
  have HR6 := Lib.hid hr6; clear hr6
  have HB6 := Lib.hid hb6; clear hb6
  go_wp2_with fail
  refine (eq_same v6 v1 l _ _ _ HR6.out HR1e.out (by omega)).mono ?_
  rintro e w7 ⟨rfl, hb7⟩
  have hz_hb7 := hb7.size; (try simp at hz_hb7)
  have HR4f := Lib.hid (HR4e.out.below hb7)
  have HB7 := Lib.hid hb7; clear hb7
  go_wp2_with fail
  refine (held_any v2 l.length _ 1 _ HR4f.out (by omega) (by decide) (by decide)).mono ?_
  rintro e w8 ⟨rfl, rfl⟩
  go_wp2
  go_ret
  have hb4 := HB4.out
  have hb6 := HB6.out
  have hb7 := HB7.out
  exact ⟨rfl, by (repeat' (first | (with_reducible assumption) | (with_reducible exact Below.refl _ _) | (with_reducible refine below_drewN ?_ _) | (with_reducible refine Below.drew ?_) | (with_reducible refine Below.alloc ?_ ?_ _) | (with_reducible refine Below.setCell ?_ ?_ _) | (with_reducible refine Below.trans ?_ (Below.mono (by assumption) ?_)) | (with_reducible exact Nat.le_refl _) | (with_reducible assumption) | omega | (simp; omega) | (simp; done)))⟩
end Go.Proofs.Ytlamclhhocofiab
