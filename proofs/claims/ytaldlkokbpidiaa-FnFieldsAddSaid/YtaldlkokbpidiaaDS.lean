/- What the general laws lean on: laws.pPlus, pTimes, pSame, big; both sides of the functions of chapter 1 at once, by contracts. -/
import Derived.Test.YtaldlkokbpidiaaC
import Derived.Test.YtaldlkokbpidiaaN
import Derived.Test.YtaldlkokbpidiaaO
import Derived.Test.YtaldlkokbpidiaaU
import Derived.Test.YtaldlkokbpidiaaV
import Derived.Test.YtaldlkokbpidiaaY
namespace Go.Proofs.Ytaldlkokbpidiaa
open Go.RowKit
/-- Two elements of one field. -/
def in2 (q a b : Int) : Bool := inE q a && inE q b
theorem in2_yes {q a b : Int} (h : in2 q a b = true) : inE q a = true ∧ inE q b = true := by
  unfold in2 at h
  exact (Bool.and_eq_true _ _).mp h
/-- The result of a function of two elements. -/
def rs2 (f : Int → Int → Int → Int) (q a b : Int) : Int := if in2 q a b = true then f q a b else 0
theorem rs2_yes {f : Int → Int → Int → Int} {q a b : Int} (h : in2 q a b = true) : rs2 f q a b = f q a b := if_pos h
theorem impl_PlusOf_any (q a b : Int) (w : World) : Calls Try.prog 6 #[.int .i64 q, .int .i64 a, .int .i64 b] w fun e w' => e = .returned (.tuple #[.int .i64 (rs2 addF q a b), .bool (in2 q a b)]) ∧ Below w.heap.size w w' := by
  unfold rs2 in2
  cases ha : inE q a <;> cases hb : inE q b
  · exact impl_PlusOf_no1 q a b w ha hb
  · exact impl_PlusOf_no2 q a b w ha hb
  · exact impl_PlusOf_no3 q a b w ha hb
  · exact impl_PlusOf_yes q a b w ha hb
theorem spec_PlusOf_any (q a b : Int) (w : World) : Calls Try.prog 7 #[.int .i64 q, .int .i64 a, .int .i64 b] w fun e w' => e = .returned (.tuple #[.int .i64 (rs2 addF q a b), .bool (in2 q a b)]) ∧ Below w.heap.size w w' := by
  unfold rs2 in2
  cases ha : inE q a
  · exact spec_PlusOf_no1 q a b w ha
  · cases hb : inE q b
    · exact spec_PlusOf_no2 q a b w ha hb
    · exact spec_PlusOf_yes q a b w ha hb
theorem impl_LessOf_any (q a b : Int) (w : World) : Calls Try.prog 8 #[.int .i64 q, .int .i64 a, .int .i64 b] w fun e w' => e = .returned (.tuple #[.int .i64 (rs2 subF q a b), .bool (in2 q a b)]) ∧ Below w.heap.size w w' := by
  unfold rs2 in2
  cases ha : inE q a <;> cases hb : inE q b
  · exact impl_LessOf_no1 q a b w ha hb
  · exact impl_LessOf_no2 q a b w ha hb
  · exact impl_LessOf_no3 q a b w ha hb
  · exact impl_LessOf_yes q a b w ha hb
theorem spec_LessOf_any (q a b : Int) (w : World) : Calls Try.prog 9 #[.int .i64 q, .int .i64 a, .int .i64 b] w fun e w' => e = .returned (.tuple #[.int .i64 (rs2 subF q a b), .bool (in2 q a b)]) ∧ Below w.heap.size w w' := by
  unfold rs2 in2
  cases ha : inE q a
  · exact spec_LessOf_no1 q a b w ha
  · cases hb : inE q b
    · exact spec_LessOf_no2 q a b w ha hb
    · exact spec_LessOf_yes q a b w ha hb
theorem impl_TimesOf_any (q a b : Int) (w : World) : Calls Try.prog 10 #[.int .i64 q, .int .i64 a, .int .i64 b] w fun e w' => e = .returned (.tuple #[.int .i64 (rs2 mulF q a b), .bool (in2 q a b)]) ∧ Below w.heap.size w w' := by
  unfold rs2 in2
  cases ha : inE q a <;> cases hb : inE q b
  · exact impl_TimesOf_no1 q a b w ha hb
  · exact impl_TimesOf_no2 q a b w ha hb
  · exact impl_TimesOf_no3 q a b w ha hb
  · exact impl_TimesOf_yes q a b w ha hb
theorem spec_TimesOf_any (q a b : Int) (w : World) : Calls Try.prog 11 #[.int .i64 q, .int .i64 a, .int .i64 b] w fun e w' => e = .returned (.tuple #[.int .i64 (rs2 mulF q a b), .bool (in2 q a b)]) ∧ Below w.heap.size w w' := by
  unfold rs2 in2
  cases ha : inE q a
  · exact spec_TimesOf_no1 q a b w ha
  · cases hb : inE q b
    · exact spec_TimesOf_no2 q a b w ha hb
    · exact spec_TimesOf_yes q a b w ha hb
/-- laws.pPlus. -/
theorem pPlus_any (q a b : Int) (w : World) : Calls Try.prog 12 #[.int .i64 q, .int .i64 a, .int .i64 b] w fun e w' => e = .returned (.int .i64 (rs2 addF q a b)) ∧ Below w.heap.size w w' := by
  have HP := Lib.hid (impl_PlusOf_any q a b w)
  go_enter Try.func12, Try.ntmps12
  go_wp2_with fail
  refine HP.out.mono ?_
  rintro e w1 ⟨rfl, hb1⟩
  go_wp2
  go_ret
  exact ⟨rfl, hb1⟩
/-- laws.pTimes. -/
theorem pTimes_any (q a b : Int) (w : World) : Calls Try.prog 13 #[.int .i64 q, .int .i64 a, .int .i64 b] w fun e w' => e = .returned (.int .i64 (rs2 mulF q a b)) ∧ Below w.heap.size w w' := by
  have HP := Lib.hid (impl_TimesOf_any q a b w)
  go_enter Try.func13, Try.ntmps13
  go_wp2_with fail
  refine HP.out.mono ?_
  rintro e w1 ⟨rfl, hb1⟩
  go_wp2
  go_ret
  exact ⟨rfl, hb1⟩
set_option maxHeartbeats 1000000 in
/-- laws.pSame, of two slices that hold the same. -/
theorem pSame_same (v1 v2 : Value) (l : List Int) (w : World) (h1 : Sl w v1 l) (h2 : Sl w v2 l) (hl : l.length ≤ 1048576) :
    Calls Try.prog 20 #[v1, v2] w fun e w' => e = .returned (.bool true) ∧ Below w.heap.size w w' := by
  by_cases h0 : 0 < l.length
  · obtain ⟨b1, o1, c1, rfl, hb1, hc1⟩ := h1.open rfl h0
    obtain ⟨b2, o2, c2, rfl, hb2, hc2⟩ := h2.open rfl h0
    have HC1 := Lib.hid hc1
    have HC2 := Lib.hid hc2
    clear h1 h2 hc1 hc2
    generalize hn : l.length = n at *
    go_enter Try.func20, Try.ntmps20
    go_wp2_with fail
    go_loopw [13] (fun vi wr => ∃ i : Nat, i ≤ n ∧ vi = .int .i64 i ∧ Below w.heap.size w wr) (fun vi _ => n - (intOf vi).toNat)
    case atStart => exact ⟨0, Nat.zero_le _, rfl, by (repeat' (first | (with_reducible assumption) | (with_reducible exact Below.refl _ _) | (with_reducible refine below_drewN ?_ _) | (with_reducible refine Below.drew ?_) | (with_reducible refine Below.alloc ?_ ?_ _) | (with_reducible refine Below.setCell ?_ ?_ _) | (with_reducible refine Below.trans ?_ (Below.mono (by assumption) ?_)) | (with_reducible exact Nat.le_refl _) | (with_reducible assumption) | omega | (simp; omega) | (simp; done)))⟩
    case round =>
      obtain ⟨i, hi, rfl, hb⟩ := hrel
      by_cases hlt : i < n
      · have e1 := (hb.cell (p := ⟨b1, o1 + i, none⟩) hb1).trans (HC1.out i hlt)
        have e2 := (hb.cell (p := ⟨b2, o2 + i, none⟩) hb2).trans (HC2.out i hlt)
        have hz := hb.size
        have HB := Lib.hid hb; clear hb
        generalize l.getD i 0 = x at *
        have l1 : b1 < wr.heap.size := by omega
        have l2 : b2 < wr.heap.size := by omega
        go_wp2_with fail
        go_region
        go_wp2_with fail
        go_roundw
        case rel => exact ⟨i + 1, by omega, by go_num, by have hb := HB.out; (repeat' (first | (with_reducible assumption) | (with_reducible exact Below.refl _ _) | (with_reducible refine below_drewN ?_ _) | (with_reducible refine Below.drew ?_) | (with_reducible refine Below.alloc ?_ ?_ _) | (with_reducible refine Below.setCell ?_ ?_ _) | (with_reducible refine Below.trans ?_ (Below.mono (by assumption) ?_)) | (with_reducible exact Nat.le_refl _) | (with_reducible assumption) | omega | (simp; omega) | (simp; done)))⟩
        case measure => simp [intOf]; omega
      · obtain rfl : n = i := by omega
        have HB := Lib.hid hb; clear hb
        go_wp2
        go_ret
        exact ⟨rfl, HB.out⟩
  · obtain rfl : l = [] := List.length_eq_zero_iff.1 (by omega)
    obtain ⟨a1, c1, rfl⟩ := h1.empty
    obtain ⟨a2, c2, rfl⟩ := h2.empty
    clear h1 h2 h0 hl
    go_enter Try.func20, Try.ntmps20
    go_wp2_with fail
    go_loopw [13] (fun vi wr => vi = .int .i64 0 ∧ wr = w) (fun _ _ => 0)
    case atStart => exact ⟨rfl, rfl⟩
    case round =>
      obtain ⟨rfl, rfl⟩ := hrel
      go_wp2
      go_ret
      exact ⟨rfl, Below.refl _ _⟩
theorem big_no (a0 a1 : Option Addr) (n0 c0 n1 c1 : Nat) (w : World) (h : n0 + n1 ≤ 1048576) :
    Calls Try.prog 4 #[.slice a0 n0 c0, .slice a1 n1 c1] w fun e w' => e = .returned (.bool false) ∧ w = w' := by
  have h1 : ¬ (1048576 : Int) < (n0 : Int) := by omega
  have h2 : ¬ (1048576 : Int) - (n0 : Int) < (n1 : Int) := by omega
  have hw : IntKind.i64.wrap (1048576 - (n0 : Int)) = 1048576 - (n0 : Int) := IntWalk.i64_in _ (by omega)
  go_enter Try.func4, Try.ntmps4
  go_wp2
  go_ret
  exact ⟨by first | rfl | simp [h2], by first | rfl | trivial⟩
end Go.Proofs.Ytaldlkokbpidiaa
