/- What the general laws lean on: laws.pPlus, pTimes, pSame, big; both sides of the functions of chapter 1 at once, by contracts. -/
import Derived.Test.YtpjlolnnbbgikaaC
import Derived.Test.YtpjlolnnbbgikaaN
import Derived.Test.YtpjlolnnbbgikaaO
import Derived.Test.YtpjlolnnbbgikaaU
import Derived.Test.YtpjlolnnbbgikaaV
import Derived.Test.YtpjlolnnbbgikaaY
namespace Go.Proofs.Ytpjlolnnbbgikaa
open Go.RowKit
/-- Two elements of one field. -/
def in2 (q a b : Int) : Bool := inE q a && inE q b
theorem in2_yes {q a b : Int} (h : in2 q a b = true) : inE q a = true ∧ inE q b = true := by
  unfold in2 at h
  exact (Bool.and_eq_true _ _).mp h
/-- The result of a function of two elements. -/
def rs2 (f : Int → Int → Int → Int) (q a b : Int) : Int := if in2 q a b = true then f q a b else 0
theorem rs2_yes {f : Int → Int → Int → Int} {q a b : Int} (h : in2 q a b = true) : rs2 f q a b = f q a b := if_pos h
theorem impl_PlusOf_any (q a b : Int) (w : World) : Calls Try.prog 16 #[.int .i64 q, .int .i64 a, .int .i64 b] w fun e w' => e = .returned (.tuple #[.int .i64 (rs2 addF q a b), .bool (in2 q a b)]) ∧ Below w.heap.size w w' := by
  unfold rs2 in2
  cases ha : inE q a <;> cases hb : inE q b
  · exact impl_PlusOf_no1 q a b w ha hb
  · exact impl_PlusOf_no2 q a b w ha hb
  · exact impl_PlusOf_no3 q a b w ha hb
  · exact impl_PlusOf_yes q a b w ha hb
theorem impl_LessOf_any (q a b : Int) (w : World) : Calls Try.prog 20 #[.int .i64 q, .int .i64 a, .int .i64 b] w fun e w' => e = .returned (.tuple #[.int .i64 (rs2 subF q a b), .bool (in2 q a b)]) ∧ Below w.heap.size w w' := by
  unfold rs2 in2
  cases ha : inE q a <;> cases hb : inE q b
  · exact impl_LessOf_no1 q a b w ha hb
  · exact impl_LessOf_no2 q a b w ha hb
  · exact impl_LessOf_no3 q a b w ha hb
  · exact impl_LessOf_yes q a b w ha hb
theorem impl_TimesOf_any (q a b : Int) (w : World) : Calls Try.prog 15 #[.int .i64 q, .int .i64 a, .int .i64 b] w fun e w' => e = .returned (.tuple #[.int .i64 (rs2 mulF q a b), .bool (in2 q a b)]) ∧ Below w.heap.size w w' := by
  unfold rs2 in2
  cases ha : inE q a <;> cases hb : inE q b
  · exact impl_TimesOf_no1 q a b w ha hb
  · exact impl_TimesOf_no2 q a b w ha hb
  · exact impl_TimesOf_no3 q a b w ha hb
  · exact impl_TimesOf_yes q a b w ha hb
theorem big_no (a0 a1 : Option Addr) (n0 c0 n1 c1 : Nat) (w : World) (h : n0 + n1 ≤ 1048576) :
    Calls Try.prog 4 #[.slice a0 n0 c0, .slice a1 n1 c1] w fun e w' => e = .returned (.bool false) ∧ w = w' := by
  have h1 : ¬ (1048576 : Int) < (n0 : Int) := by omega
  have h2 : ¬ (1048576 : Int) - (n0 : Int) < (n1 : Int) := by omega
  have hw : IntKind.i64.wrap (1048576 - (n0 : Int)) = 1048576 - (n0 : Int) := IntWalk.i64_in _ (by omega)
  go_enter Try.func4, Try.ntmps4
  go_wp2
  go_ret
  exact ⟨by first | rfl | simp [h2], by first | rfl | trivial⟩
end Go.Proofs.Ytpjlolnnbbgikaa
