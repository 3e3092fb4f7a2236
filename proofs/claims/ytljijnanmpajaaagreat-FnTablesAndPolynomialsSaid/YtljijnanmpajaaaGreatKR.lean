/- A bundle of texts: C N O U V Y DS DT. -/
import Derived.WalkSmall
import Derived.Deep.QuietTactic
import Derived.BigQuiet
import Derived.Test.YtljijnanmpajaaaGreatKB
import Derived.Test.YtljijnanmpajaaaGreatKE
import Derived.Test.YtljijnanmpajaaaGreatKF
import Derived.Test.YtljijnanmpajaaaGreatKC
import Derived.Test.YtljijnanmpajaaaGreatKG
import Derived.Test.YtljijnanmpajaaaGreatDR
namespace Go.Proofs.YtljijnanmpajaaaGreat
open Go.RowKit
set_option maxHeartbeats 1000000 in
/-- impl.PlusOf. -/
theorem impl_PlusOf_yes (q a b : Int) (w : World) (ha : inE q a = true) (hb : inE q b = true) :
    Calls Tryz.prog 112 #[.int .i64 q, .int .i64 a, .int .i64 b] w fun e w' => e = .returned (.tuple #[.int .i64 (addF q a b), .bool true]) ∧ Below w.heap.size w w' := by
  have hf := addF_bd q a b (inE_yes ha).1 (inE_yes ha).2.1 (inE_yes ha).2.2 (inE_yes hb).2.1 (inE_yes hb).2.2
  have HC := Lib.hid (fun w => plusE q a b w (inE_yes ha).1 (inE_yes ha).2.1 (inE_yes ha).2.2 (inE_yes hb).2.1 (inE_yes hb).2.2)
  have HN := Lib.hid (fun w => numberE q (addF q a b) w (inE_yes ha).1 hf.1 hf.2)
  have HP := Lib.hid (fun w => pairOf_yes q a b w ha hb)
  clear hf ha hb
  go_enter Tryz.func112, Tryz.ntmps112
  go_wp2_with fail
  refine (HP.out _).mono ?_
  rintro e w1 ⟨rfl, hb1⟩
  have hz_hb1 := hb1.size; (try simp at hz_hb1)
  have HB1 := Lib.hid hb1; clear hb1
  go_wp2_with fail
  refine (HC.out _).mono ?_
  rintro e w2 ⟨rfl, hb2⟩
  have hz_hb2 := hb2.size; (try simp at hz_hb2)
  have HB2 := Lib.hid hb2; clear hb2
  go_wp2_with fail
  refine (HN.out _).mono ?_
  rintro e w3 ⟨rfl, hb3⟩
  have hz_hb3 := hb3.size; (try simp at hz_hb3)
  have HB3 := Lib.hid hb3; clear hb3
  go_wp2
  go_ret2
  have hb1 := HB1.out
  have hb2 := HB2.out
  have hb3 := HB3.out
  exact ⟨rfl, by (repeat' (first | (with_reducible assumption) | (with_reducible exact Below.refl _ _) | (with_reducible refine below_drewN ?_ _) | (with_reducible refine Below.drew ?_) | (with_reducible refine Below.alloc ?_ ?_ _) | (with_reducible refine Below.setCell ?_ ?_ _) | (with_reducible refine Below.trans ?_ (Below.mono (by assumption) ?_)) | (with_reducible exact Nat.le_refl _) | (with_reducible assumption) | omega | (simp; omega) | (simp; done)))⟩
theorem impl_PlusOf_no1 (q a b : Int) (w : World) (ha : inE q a = false) (hb : inE q b = false) :
    Calls Tryz.prog 112 #[.int .i64 q, .int .i64 a, .int .i64 b] w fun e w' => e = .returned (.tuple #[.int .i64 0, .bool false]) ∧ Below w.heap.size w w' := by
  have HP := Lib.hid (fun w => pairOf_no1 q a b w ha hb)
  clear ha hb
  go_enter Tryz.func112, Tryz.ntmps112
  go_wp2_with fail
  refine (HP.out _).mono ?_
  rintro e w1 ⟨rfl, hb1⟩
  have hz_hb1 := hb1.size; (try simp at hz_hb1)
  have HB1 := Lib.hid hb1; clear hb1
  go_wp2_with fail
  go_ret2
  have hb1 := HB1.out
  exact ⟨rfl, by (repeat' (first | (with_reducible assumption) | (with_reducible exact Below.refl _ _) | (with_reducible refine below_drewN ?_ _) | (with_reducible refine Below.drew ?_) | (with_reducible refine Below.alloc ?_ ?_ _) | (with_reducible refine Below.setCell ?_ ?_ _) | (with_reducible refine Below.trans ?_ (Below.mono (by assumption) ?_)) | (with_reducible exact Nat.le_refl _) | (with_reducible assumption) | omega | (simp; omega) | (simp; done)))⟩
theorem impl_PlusOf_no2 (q a b : Int) (w : World) (ha : inE q a = false) (hb : inE q b = true) :
    Calls Tryz.prog 112 #[.int .i64 q, .int .i64 a, .int .i64 b] w fun e w' => e = .returned (.tuple #[.int .i64 0, .bool false]) ∧ Below w.heap.size w w' := by
  have HP := Lib.hid (fun w => pairOf_no2 q a b w ha hb)
  clear ha hb
  go_enter Tryz.func112, Tryz.ntmps112
  go_wp2_with fail
  refine (HP.out _).mono ?_
  rintro e w1 ⟨rfl, hb1⟩
  have hz_hb1 := hb1.size; (try simp at hz_hb1)
  have HB1 := Lib.hid hb1; clear hb1
  go_wp2_with fail
  go_ret2
  have hb1 := HB1.out
  exact ⟨rfl, by (repeat' (first | (with_reducible assumption) | (with_reducible exact Below.refl _ _) | (with_reducible refine below_drewN ?_ _) | (with_reducible refine Below.drew ?_) | (with_reducible refine Below.alloc ?_ ?_ _) | (with_reducible refine Below.setCell ?_ ?_ _) | (with_reducible refine Below.trans ?_ (Below.mono (by assumption) ?_)) | (with_reducible exact Nat.le_refl _) | (with_reducible assumption) | omega | (simp; omega) | (simp; done)))⟩
theorem impl_PlusOf_no3 (q a b : Int) (w : World) (ha : inE q a = true) (hb : inE q b = false) :
    Calls Tryz.prog 112 #[.int .i64 q, .int .i64 a, .int .i64 b] w fun e w' => e = .returned (.tuple #[.int .i64 0, .bool false]) ∧ Below w.heap.size w w' := by
  have HP := Lib.hid (fun w => pairOf_no3 q a b w ha hb)
  clear ha hb
  go_enter Tryz.func112, Tryz.ntmps112
  go_wp2_with fail
  refine (HP.out _).mono ?_
  rintro e w1 ⟨rfl, hb1⟩
  have hz_hb1 := hb1.size; (try simp at hz_hb1)
  have HB1 := Lib.hid hb1; clear hb1
  go_wp2_with fail
  go_ret2
  have hb1 := HB1.out
  exact ⟨rfl, by (repeat' (first | (with_reducible assumption) | (with_reducible exact Below.refl _ _) | (with_reducible refine below_drewN ?_ _) | (with_reducible refine Below.drew ?_) | (with_reducible refine Below.alloc ?_ ?_ _) | (with_reducible refine Below.setCell ?_ ?_ _) | (with_reducible refine Below.trans ?_ (Below.mono (by assumption) ?_)) | (with_reducible exact Nat.le_refl _) | (with_reducible assumption) | omega | (simp; omega) | (simp; done)))⟩

set_option maxHeartbeats 1000000 in
/-- impl.TimesOf. -/
theorem impl_TimesOf_yes (q a b : Int) (w : World) (ha : inE q a = true) (hb : inE q b = true) :
    Calls Tryz.prog 113 #[.int .i64 q, .int .i64 a, .int .i64 b] w fun e w' => e = .returned (.tuple #[.int .i64 (mulF q a b), .bool true]) ∧ Below w.heap.size w w' := by
  have hf := mulF_bd q a b (inE_yes ha).1 (inE_yes ha).2.1 (inE_yes ha).2.2 (inE_yes hb).2.1 (inE_yes hb).2.2
  have HC := Lib.hid (fun w => timesE q a b w (inE_yes ha).1 (inE_yes ha).2.1 (inE_yes ha).2.2 (inE_yes hb).2.1 (inE_yes hb).2.2)
  have HN := Lib.hid (fun w => numberE q (mulF q a b) w (inE_yes ha).1 hf.1 hf.2)
  have HP := Lib.hid (fun w => pairOf_yes q a b w ha hb)
  clear hf ha hb
  go_enter Tryz.func113, Tryz.ntmps113
  go_wp2_with fail
  refine (HP.out _).mono ?_
  rintro e w1 ⟨rfl, hb1⟩
  have hz_hb1 := hb1.size; (try simp at hz_hb1)
  have HB1 := Lib.hid hb1; clear hb1
  go_wp2_with fail
  refine (HC.out _).mono ?_
  rintro e w2 ⟨rfl, hb2⟩
  have hz_hb2 := hb2.size; (try simp at hz_hb2)
  have HB2 := Lib.hid hb2; clear hb2
  go_wp2_with fail
  refine (HN.out _).mono ?_
  rintro e w3 ⟨rfl, hb3⟩
  have hz_hb3 := hb3.size; (try simp at hz_hb3)
  have HB3 := Lib.hid hb3; clear hb3
  go_wp2
  go_ret2
  have hb1 := HB1.out
  have hb2 := HB2.out
  have hb3 := HB3.out
  exact ⟨rfl, by (repeat' (first | (with_reducible assumption) | (with_reducible exact Below.refl _ _) | (with_reducible refine below_drewN ?_ _) | (with_reducible refine Below.drew ?_) | (with_reducible refine Below.alloc ?_ ?_ _) | (with_reducible refine Below.setCell ?_ ?_ _) | (with_reducible refine Below.trans ?_ (Below.mono (by assumption) ?_)) | (with_reducible exact Nat.le_refl _) | (with_reducible assumption) | omega | (simp; omega) | (simp; done)))⟩
theorem impl_TimesOf_no1 (q a b : Int) (w : World) (ha : inE q a = false) (hb : inE q b = false) :
    Calls Tryz.prog 113 #[.int .i64 q, .int .i64 a, .int .i64 b] w fun e w' => e = .returned (.tuple #[.int .i64 0, .bool false]) ∧ Below w.heap.size w w' := by
  have HP := Lib.hid (fun w => pairOf_no1 q a b w ha hb)
  clear ha hb
  go_enter Tryz.func113, Tryz.ntmps113
  go_wp2_with fail
  refine (HP.out _).mono ?_
  rintro e w1 ⟨rfl, hb1⟩
  have hz_hb1 := hb1.size; (try simp at hz_hb1)
  have HB1 := Lib.hid hb1; clear hb1
  go_wp2_with fail
  go_ret2
  have hb1 := HB1.out
  exact ⟨rfl, by (repeat' (first | (with_reducible assumption) | (with_reducible exact Below.refl _ _) | (with_reducible refine below_drewN ?_ _) | (with_reducible refine Below.drew ?_) | (with_reducible refine Below.alloc ?_ ?_ _) | (with_reducible refine Below.setCell ?_ ?_ _) | (with_reducible refine Below.trans ?_ (Below.mono (by assumption) ?_)) | (with_reducible exact Nat.le_refl _) | (with_reducible assumption) | omega | (simp; omega) | (simp; done)))⟩
theorem impl_TimesOf_no2 (q a b : Int) (w : World) (ha : inE q a = false) (hb : inE q b = true) :
    Calls Tryz.prog 113 #[.int .i64 q, .int .i64 a, .int .i64 b] w fun e w' => e = .returned (.tuple #[.int .i64 0, .bool false]) ∧ Below w.heap.size w w' := by
  have HP := Lib.hid (fun w => pairOf_no2 q a b w ha hb)
  clear ha hb
  go_enter Tryz.func113, Tryz.ntmps113
  go_wp2_with fail
  refine (HP.out _).mono ?_
  rintro e w1 ⟨rfl, hb1⟩
  have hz_hb1 := hb1.size; (try simp at hz_hb1)
  have HB1 := Lib.hid hb1; clear hb1
  go_wp2_with fail
  go_ret2
  have hb1 := HB1.out
  exact ⟨rfl, by (repeat' (first | (with_reducible assumption) | (with_reducible exact Below.refl _ _) | (with_reducible refine below_drewN ?_ _) | (with_reducible refine Below.drew ?_) | (with_reducible refine Below.alloc ?_ ?_ _) | (with_reducible refine Below.setCell ?_ ?_ _) | (with_reducible refine Below.trans ?_ (Below.mono (by assumption) ?_)) | (with_reducible exact Nat.le_refl _) | (with_reducible assumption) | omega | (simp; omega) | (simp; done)))⟩
theorem impl_TimesOf_no3 (q a b : Int) (w : World) (ha : inE q a = true) (hb : inE q b = false) :
    Calls Tryz.prog 113 #[.int .i64 q, .int .i64 a, .int .i64 b] w fun e w' => e = .returned (.tuple #[.int .i64 0, .bool false]) ∧ Below w.heap.size w w' := by
  have HP := Lib.hid (fun w => pairOf_no3 q a b w ha hb)
  clear ha hb
  go_enter Tryz.func113, Tryz.ntmps113
  go_wp2_with fail
  refine (HP.out _).mono ?_
  rintro e w1 ⟨rfl, hb1⟩
  have hz_hb1 := hb1.size; (try simp at hz_hb1)
  have HB1 := Lib.hid hb1; clear hb1
  go_wp2_with fail
  go_ret2
  have hb1 := HB1.out
  exact ⟨rfl, by (repeat' (first | (with_reducible assumption) | (with_reducible exact Below.refl _ _) | (with_reducible refine below_drewN ?_ _) | (with_reducible refine Below.drew ?_) | (with_reducible refine Below.alloc ?_ ?_ _) | (with_reducible refine Below.setCell ?_ ?_ _) | (with_reducible refine Below.trans ?_ (Below.mono (by assumption) ?_)) | (with_reducible exact Nat.le_refl _) | (with_reducible assumption) | omega | (simp; omega) | (simp; done)))⟩

theorem dg_get (q a : Int) (j : Nat) : (digs (plN q) (pr q) a)[j]?.getD 0 = dg q a j := by simp [dg, List.getD]
/-- The modulus, whole. -/
def mdlW (q : Int) : List Int := mdl q ++ [1]
theorem mdlW_len (q : Int) (h : isSz q = true) : (mdlW q).length = plN q + 1 := by
  rw [mdlW, List.length_append, (mdl_len q h).1]
  rfl
theorem modE (q : Int) (h : isSz q = true) : ∃ x0 x1 x2 x3 x4 : Int, (∀ w, Calls Tryz.prog 215 #[fdE q] w fun e w' => e = .returned (.agg #[.int .i64 x0, .int .i64 x1, .int .i64 x2, .int .i64 x3, .int .i64 x4]) ∧ Below w.heap.size w w') ∧
    (mdlW q) = [x0, x1, x2, x3, x4].take (plN q + 1) := by
  have hb : ∀ (w w' : World) (A B : Obj), (w.alloc A).alloc B = w' → Below w.heap.size w w' := by
    rintro w w' A B rfl
    exact ((Below.refl _ _).alloc (Nat.le_refl _) _).alloc (by simp) _
  rcases five q h with ⟨hk, hp, q2, q13, n4, n8, n9, n16⟩ | rfl | rfl | rfl | rfl
  · refine ⟨0, 1, 0, 0, 0, fun w => ?_, by simp [mdlW, mdl, hk, n4, n8, n9, n16]⟩
    rw [show fdE q = .agg #[.int .i64 q, .int .i64 q, .int .i64 1] from by simp [fdE, pl, hk, hp]]
    exact (modulus_one q w (by simp [n4]) (by simp [n8]) (by simp [n9]) (by simp [n16])).mono fun _ _ ⟨he, hw⟩ => ⟨he, hb _ _ _ _ hw⟩
  · refine ⟨1, 1, 1, 0, 0, fun w => ?_, rfl⟩
    rw [show fdE 4 = .agg #[.int .i64 4, .int .i64 2, .int .i64 2] from by simp [fdE, pl, pr, plN]]
    exact (modulus_4 w).mono fun _ _ ⟨he, hw⟩ => ⟨he, hb _ _ _ _ hw⟩
  · refine ⟨1, 1, 0, 1, 0, fun w => ?_, rfl⟩
    rw [show fdE 8 = .agg #[.int .i64 8, .int .i64 2, .int .i64 3] from by simp [fdE, pl, pr, plN]]
    exact (modulus_8 w).mono fun _ _ ⟨he, hw⟩ => ⟨he, hb _ _ _ _ hw⟩
  · refine ⟨1, 0, 1, 0, 0, fun w => ?_, rfl⟩
    rw [show fdE 9 = .agg #[.int .i64 9, .int .i64 3, .int .i64 2] from by simp [fdE, pl, pr, plN]]
    exact (modulus_9 w).mono fun _ _ ⟨he, hw⟩ => ⟨he, hb _ _ _ _ hw⟩
  · refine ⟨1, 1, 0, 0, 1, fun w => ?_, rfl⟩
    rw [show fdE 16 = .agg #[.int .i64 16, .int .i64 2, .int .i64 4] from by simp [fdE, pl, pr, plN]]
    exact (modulus_16 w).mono fun _ _ ⟨he, hw⟩ => ⟨he, hb _ _ _ _ hw⟩

/-- Two elements of one field. -/
def in2 (q a b : Int) : Bool := inE q a && inE q b
theorem in2_yes {q a b : Int} (h : in2 q a b = true) : inE q a = true ∧ inE q b = true := by
  unfold in2 at h
  exact (Bool.and_eq_true _ _).mp h
/-- The result of a function of two elements. -/
def rs2 (f : Int → Int → Int → Int) (q a b : Int) : Int := if in2 q a b = true then f q a b else 0
theorem rs2_yes {f : Int → Int → Int → Int} {q a b : Int} (h : in2 q a b = true) : rs2 f q a b = f q a b := if_pos h
theorem impl_PlusOf_any (q a b : Int) (w : World) : Calls Tryz.prog 112 #[.int .i64 q, .int .i64 a, .int .i64 b] w fun e w' => e = .returned (.tuple #[.int .i64 (rs2 addF q a b), .bool (in2 q a b)]) ∧ Below w.heap.size w w' := by
  unfold rs2 in2
  cases ha : inE q a <;> cases hb : inE q b
  · exact impl_PlusOf_no1 q a b w ha hb
  · exact impl_PlusOf_no2 q a b w ha hb
  · exact impl_PlusOf_no3 q a b w ha hb
  · exact impl_PlusOf_yes q a b w ha hb
theorem impl_TimesOf_any (q a b : Int) (w : World) : Calls Tryz.prog 113 #[.int .i64 q, .int .i64 a, .int .i64 b] w fun e w' => e = .returned (.tuple #[.int .i64 (rs2 mulF q a b), .bool (in2 q a b)]) ∧ Below w.heap.size w w' := by
  unfold rs2 in2
  cases ha : inE q a <;> cases hb : inE q b
  · exact impl_TimesOf_no1 q a b w ha hb
  · exact impl_TimesOf_no2 q a b w ha hb
  · exact impl_TimesOf_no3 q a b w ha hb
  · exact impl_TimesOf_yes q a b w ha hb
/-- laws.pPlus. -/
theorem pPlus_any (q a b : Int) (w : World) : Calls Tryz.prog 24 #[.int .i64 q, .int .i64 a, .int .i64 b] w fun e w' => e = .returned (.int .i64 (rs2 addF q a b)) ∧ Below w.heap.size w w' := by
  have HP := Lib.hid (impl_PlusOf_any q a b w)
  go_enter Tryz.func24, Tryz.ntmps24
  go_wp2_with fail
  refine HP.out.mono ?_
  rintro e w1 ⟨rfl, hb1⟩
  go_wp2
  go_ret
  exact ⟨rfl, hb1⟩
/-- laws.pTimes. -/
theorem pTimes_any (q a b : Int) (w : World) : Calls Tryz.prog 25 #[.int .i64 q, .int .i64 a, .int .i64 b] w fun e w' => e = .returned (.int .i64 (rs2 mulF q a b)) ∧ Below w.heap.size w w' := by
  have HP := Lib.hid (impl_TimesOf_any q a b w)
  go_enter Tryz.func25, Tryz.ntmps25
  go_wp2_with fail
  refine HP.out.mono ?_
  rintro e w1 ⟨rfl, hb1⟩
  go_wp2
  go_ret
  exact ⟨rfl, hb1⟩
set_option maxHeartbeats 1000000 in
/-- laws.pSame, of two slices that hold the same. -/
theorem pSame_same (v1 v2 : Value) (l : List Int) (w : World) (h1 : Sl w v1 l) (h2 : Sl w v2 l) (hl : l.length ≤ 1048576) :
    Calls Tryz.prog 13 #[v1, v2] w fun e w' => e = .returned (.bool true) ∧ Below w.heap.size w w' := by
  by_cases h0 : 0 < l.length
  · obtain ⟨b1, o1, c1, rfl, hb1, hc1⟩ := h1.open rfl h0
    obtain ⟨b2, o2, c2, rfl, hb2, hc2⟩ := h2.open rfl h0
    have HC1 := Lib.hid hc1
    have HC2 := Lib.hid hc2
    clear h1 h2 hc1 hc2
    generalize hn : l.length = n at *
    go_enter Tryz.func13, Tryz.ntmps13
    go_wp2_with fail
    go_loopw [13] (fun vi wr => ∃ i : Nat, i ≤ n ∧ vi = .int .i64 i ∧ Below w.heap.size w wr) (fun vi _ => n - (intOf vi).toNat)
    case atStart => exact ⟨0, Nat.zero_le _, rfl, by (repeat' (first | (with_reducible assumption) | (with_reducible exact Below.refl _ _) | (with_reducible refine below_drewN ?_ _) | (with_reducible refine Below.drew ?_) | (with_reducible refine Below.alloc ?_ ?_ _) | (with_reducible refine Below.setCell ?_ ?_ _) | (with_reducible refine Below.trans ?_ (Below.mono (by assumption) ?_)) | (with_reducible exact Nat.le_refl _) | (with_reducible assumption) | omega | (simp; omega) | (simp; done)))⟩
    case round =>
      obtain ⟨i, hi, rfl, hb⟩ := hrel
      by_cases hlt : i < n
      · have e1 := (hb.cell (p := ⟨b1, o1 + i, none⟩) hb1).trans (HC1.out i hlt)
        have e2 := (hb.cell (p := ⟨b2, o2 + i, none⟩) hb2).trans (HC2.out i hlt)
        have hz := hb.size
        have HB := Lib.hid hb; clear hb
        generalize l.getD i 0 = x at *
        have l1 : b1 < wr.heap.size := by omega
        have l2 : b2 < wr.heap.size := by omega
        go_wp2_with fail
        go_region
        go_wp2_with fail
        go_roundw
        case rel => exact ⟨i + 1, by omega, by go_num, by have hb := HB.out; (repeat' (first | (with_reducible assumption) | (with_reducible exact Below.refl _ _) | (with_reducible refine below_drewN ?_ _) | (with_reducible refine Below.drew ?_) | (with_reducible refine Below.alloc ?_ ?_ _) | (with_reducible refine Below.setCell ?_ ?_ _) | (with_reducible refine Below.trans ?_ (Below.mono (by assumption) ?_)) | (with_reducible exact Nat.le_refl _) | (with_reducible assumption) | omega | (simp; omega) | (simp; done)))⟩
        case measure => simp [intOf]; omega
      · obtain rfl : n = i := by omega
        have HB := Lib.hid hb; clear hb
        go_wp2
        go_ret
        exact ⟨rfl, HB.out⟩
  · obtain rfl : l = [] := List.length_eq_zero_iff.1 (by omega)
    obtain ⟨a1, c1, rfl⟩ := h1.empty
    obtain ⟨a2, c2, rfl⟩ := h2.empty
    clear h1 h2 h0 hl
    go_enter Tryz.func13, Tryz.ntmps13
    go_wp2_with fail
    go_loopw [13] (fun vi wr => vi = .int .i64 0 ∧ wr = w) (fun _ _ => 0)
    case atStart => exact ⟨rfl, rfl⟩
    case round =>
      obtain ⟨rfl, rfl⟩ := hrel
      go_wp2
      go_ret
      exact ⟨rfl, Below.refl _ _⟩
theorem big_no (a0 a1 : Option Addr) (n0 c0 n1 c1 : Nat) (w : World) (h : n0 + n1 ≤ 1048576) :
    Calls Tryz.prog 7 #[.slice a0 n0 c0, .slice a1 n1 c1] w fun e w' => e = .returned (.bool false) ∧ w = w' := by
  have h1 : ¬ (1048576 : Int) < (n0 : Int) := by omega
  have h2 : ¬ (1048576 : Int) - (n0 : Int) < (n1 : Int) := by omega
  have hw : IntKind.i64.wrap (1048576 - (n0 : Int)) = 1048576 - (n0 : Int) := IntWalk.i64_in _ (by omega)
  go_enter Tryz.func7, Tryz.ntmps7
  go_wp2
  go_ret
  exact ⟨by first | rfl | simp [h2], by first | rfl | trivial⟩
theorem IsRow.bys {w : World} {a : Option Addr} {n c : Nat} {z : List Int} (h : IsRow .u8 w a n c z) (hn : n ≤ 1048576) : Bys w a n := by
  refine ⟨hn, fun i hi => ?_⟩
  rcases h with ⟨_, rfl, _⟩ | ⟨x, rfl, hl, hm, hz, hcell, hwz⟩
  · omega
  · obtain ⟨b, off, spot⟩ := x
    have hc := hcell 0 (by omega)
    have hspot : spot = none := by simpa [Addr.add] using World.cell?_spot hc
    subst hspot
    have h1 := hcell i (by omega)
    have e : (⟨b, off, none⟩ : Addr).add i = ⟨b, off + i, none⟩ := by by_cases h0 : i = 0 <;> simp [Addr.add, h0]
    rw [e] at h1
    have hmem : z.getD i 0 ∈ z := by
      rw [show z.getD i 0 = z[i]'(by omega) by simp [List.getD, show i < z.length by omega]]
      exact List.getElem_mem _
    have hw := hwz _ hmem
    simp only [Lit.wf, Bool.and_eq_true, decide_eq_true_eq] at hw
    have e1 : IntKind.u8.min = 0 := by decide
    have e2 : IntKind.u8.max = 255 := by decide
    rw [e1, e2] at hw
    exact ⟨b, off, _, rfl, World.block_lt_of_cell? w _ h1, h1, hw.1, by omega⟩
/-- The digits that DigitsOf returns. -/
def dgl (q a : Int) : List Int := if inE q a = true then digs (plN q) (pr q) a else []
theorem dgl_len {q a : Int} (h : inE q a = true) : (dgl q a).length = plN q := by
  rw [dgl, if_pos h, digs_len]
/-- What laws.pPlus and pTimes return. -/
def PP (q x y z : Int) : Prop := ∀ w, Calls Tryz.prog 24 #[.int .i64 q, .int .i64 x, .int .i64 y] w fun e w' => e = .returned (.int .i64 z) ∧ Below w.heap.size w w'
def TT (q x y z : Int) : Prop := ∀ w, Calls Tryz.prog 25 #[.int .i64 q, .int .i64 x, .int .i64 y] w fun e w' => e = .returned (.int .i64 z) ∧ Below w.heap.size w w'
theorem in2_of {q x y : Int} (h : isSz q = true) (hx : El q x) (hy : El q y) : in2 q x y = true := by
  simp [in2, inE, h, hx.1, hx.2, hy.1, hy.2]
theorem PP.of {q x y z : Int} (h : isSz q = true) (hx : El q x) (hy : El q y) (e : addF q x y = z) : PP q x y z := fun w => by
  have := pPlus_any q x y w
  rw [rs2_yes (in2_of h hx hy), e] at this
  exact this
theorem TT.of {q x y z : Int} (h : isSz q = true) (hx : El q x) (hy : El q y) (e : mulF q x y = z) : TT q x y z := fun w => by
  have := pTimes_any q x y w
  rw [rs2_yes (in2_of h hx hy), e] at this
  exact this
theorem El.sub {q a b : Int} (h : isSz q = true) (ha : El q a) (hb : El q b) : El q (subF q a b) := subF_bd q a b h ha.1 ha.2 hb.1 hb.2
set_option maxRecDepth 100000 in
theorem sub_add' {q a b : Int} (h : isSz q = true) (ha : El q a) (hb : El q b) : addF q (subF q a b) b = a :=
  of_decide_eq_true (of_chk2 (f := fun q a b => decide (addF q (subF q a b) b = a)) (by decide +kernel) q a b h ha.1 ha.2 hb.1 hb.2)
set_option maxRecDepth 100000 in
theorem mul_unit' {q a : Int} (h : isSz q = true) (ha : El q a) : mulF q a 1 = a :=
  of_decide_eq_true (of_chk1 (f := fun q a => decide (mulF q a 1 = a)) (by decide +kernel) q a h ha.1 ha.2)
set_option maxRecDepth 100000 in
theorem mul_none {q a b : Int} (h : isSz q = true) (ha : El q a) (hb : El q b) : (mulF q a b == 0) = ((a == 0) || (b == 0)) :=
  eq_of_beq (of_chk2 (f := fun q a b => (mulF q a b == 0) == ((a == 0) || (b == 0))) (by decide +kernel) q a b h ha.1 ha.2 hb.1 hb.2)
/-- What the law asks of two elements and a third one. -/
theorem fields_ask {q a b c : Int} (h : isSz q = true) (ha : El q a) (hb : El q b) (hc : El q c) : ∃ s d p bc sc mbc mpc cs ca cb : Int, addF q a b = s ∧ subF q a b = d ∧ mulF q a b = p ∧ El q s ∧
    PP q d b a ∧ PP q b a s ∧ TT q b a p ∧ PP q b c bc ∧ PP q a bc sc ∧ PP q s c sc ∧ TT q b c mbc ∧ TT q a mbc mpc ∧ TT q p c mpc ∧ TT q c s cs ∧ TT q c a ca ∧ TT q c b cb ∧ PP q ca cb cs ∧ PP q a 0 a ∧ TT q a 1 a ∧ (p == 0) = ((a == 0) || (b == 0)) :=
  ⟨_, _, _, addF q b c, addF q a (addF q b c), mulF q b c, mulF q a (mulF q b c), mulF q c (addF q a b), mulF q c a, mulF q c b, rfl, rfl, rfl, ha.add h hb,
    PP.of h (ha.sub h hb) hb (sub_add' h ha hb), PP.of h hb ha (add_comm' h hb ha), TT.of h hb ha (mul_comm' h hb ha), PP.of h hb hc rfl, PP.of h ha (hb.add h hc) rfl, PP.of h (ha.add h hb) hc (add_assoc' h ha hb hc),
    TT.of h hb hc rfl, TT.of h ha (hb.mul h hc) rfl, TT.of h (ha.mul h hb) hc (mulF_assoc q a b c h ha.1 ha.2 hb.1 hb.2 hc.1 hc.2), TT.of h hc (ha.add h hb) rfl, TT.of h hc ha rfl, TT.of h hc hb rfl,
    PP.of h (hc.mul h ha) (hc.mul h hb) (mul_add' h hc ha hb).symm, PP.of h ha (El.zero h) (add_zero' h ha).1, TT.of h ha (El.one h) (mul_unit' h ha), mul_none h ha hb⟩
end Go.Proofs.YtljijnanmpajaaaGreat
