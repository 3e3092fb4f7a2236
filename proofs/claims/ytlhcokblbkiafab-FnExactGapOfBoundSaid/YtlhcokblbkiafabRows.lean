/-
  No cell of these rows narrows 'for every input' (looked for: loops, veiled, ifaces, maps, wideKeys, modest, calm, conditions, laid).
  DERIVED. THE GIVEN ROWS OF THIS SEAT. 5 by the template 'for every input the law returns true; each argument reads behind the call as it read before'; 0 by the template 'total and deterministic' (their statements: YtlhcokblbkiafabTotals.lean).
  GIVEN WITH THE SEED: the statements are not yours to turn. If you find one false, say at which input.
  Laid BY PROGRAM, IN A SANDBOX (cutbox-rows.mjs): the forced cells as the released guide's own fill.sh prints them over the translation a3b38e597b043b4b… (all of the seat's roots in one cut). By AI agents, Wed Nov 11 2026. No macro, syntax, notation, axiom, sorry.
-/
import Derived.Test.YtlhcokblbkiafabChecked
import GoSem.Claim
import GoSem.ClaimJoined
import GoSem.ClaimMapViews
import Derived.JoinedTies
import Derived.KernelRfl
namespace Go.Proofs.Ytlhcokblbkiafab
/- THE CELL 'sum', in the pinned program and in every row, IS THE sha256 OF THE DUMP (.gsa) THAT YtlhcokblbkiafabProg.lean LOADS. Nothing in Lean hashes anything: it is a label: what it is worth is what the hold of that sum in a sandbox is worth. -/
noncomputable def Try.pinned : Pinned := { name := "ytlhcokblbkiafab", sum := "a3b38e597b043b4b5edba0ec8f3d022bacf17a5d1a97bc383b336a7da6e688bb", checked := Try.checked }
namespace Rows
def none {H : Type} : Left H := { results := [], args := [] }

/-- 'laws.FnExactDerivativePoly': WHATEVER THE INPUT: true; the input reads as it did. -/
def fnExactDerivativePolySpec : ChangeSpec := { name := "fnExactDerivativePoly", fn := fun _ => fun
  | [d1, d2] => { results := [.lit (.bool true)], args := [d1, d2] }
  | _ => none }
def fnExactDerivativePolyRow : OpenClaim := { program := "ytlhcokblbkiafab", sum := "a3b38e597b043b4b5edba0ec8f3d022bacf17a5d1a97bc383b336a7da6e688bb", func := "loop.example/g01163/laws.FnExactDerivativePoly", spec := "fnExactDerivativePoly", unfollowed := true, recurses := true, apart := false }
def FnExactDerivativePolySaid : Prop := fnExactDerivativePolyRow.holds Try.pinned (OpenSpec.ofChange fnExactDerivativePolySpec)

/-- ITS FALSE NEIGHBOUR: 'it returns false'. Refute it at one input. -/
def fnExactDerivativePolyWrong : ChangeSpec := { name := "fnExactDerivativePoly", fn := fun _ => fun
  | [d1, d2] => { results := [.lit (.bool false)], args := [d1, d2] }
  | _ => none }
def FnExactDerivativePolyWrongFalsely : Prop := fnExactDerivativePolyRow.holds Try.pinned (OpenSpec.ofChange fnExactDerivativePolyWrong)

/-- 'laws.FnExactCommonFactor': WHATEVER THE INPUT: true; the input reads as it did. -/
def fnExactCommonFactorSpec : ChangeSpec := { name := "fnExactCommonFactor", fn := fun _ => fun
  | [d1, d2, d3] => { results := [.lit (.bool true)], args := [d1, d2, d3] }
  | _ => none }
def fnExactCommonFactorRow : OpenClaim := { program := "ytlhcokblbkiafab", sum := "a3b38e597b043b4b5edba0ec8f3d022bacf17a5d1a97bc383b336a7da6e688bb", func := "loop.example/g01163/laws.FnExactCommonFactor", spec := "fnExactCommonFactor", unfollowed := true, recurses := true, apart := false }
def FnExactCommonFactorSaid : Prop := fnExactCommonFactorRow.holds Try.pinned (OpenSpec.ofChange fnExactCommonFactorSpec)

/-- ITS FALSE NEIGHBOUR: 'it returns false'. Refute it at one input. -/
def fnExactCommonFactorWrong : ChangeSpec := { name := "fnExactCommonFactor", fn := fun _ => fun
  | [d1, d2, d3] => { results := [.lit (.bool false)], args := [d1, d2, d3] }
  | _ => none }
def FnExactCommonFactorWrongFalsely : Prop := fnExactCommonFactorRow.holds Try.pinned (OpenSpec.ofChange fnExactCommonFactorWrong)

/-- 'laws.FnExactHasNoSquare': WHATEVER THE INPUT: true; the input reads as it did. -/
def fnExactHasNoSquareSpec : ChangeSpec := { name := "fnExactHasNoSquare", fn := fun _ => fun
  | [d1, d2] => { results := [.lit (.bool true)], args := [d1, d2] }
  | _ => none }
def fnExactHasNoSquareRow : OpenClaim := { program := "ytlhcokblbkiafab", sum := "a3b38e597b043b4b5edba0ec8f3d022bacf17a5d1a97bc383b336a7da6e688bb", func := "loop.example/g01163/laws.FnExactHasNoSquare", spec := "fnExactHasNoSquare", unfollowed := true, recurses := true, apart := false }
def FnExactHasNoSquareSaid : Prop := fnExactHasNoSquareRow.holds Try.pinned (OpenSpec.ofChange fnExactHasNoSquareSpec)

/-- ITS FALSE NEIGHBOUR: 'it returns false'. Refute it at one input. -/
def fnExactHasNoSquareWrong : ChangeSpec := { name := "fnExactHasNoSquare", fn := fun _ => fun
  | [d1, d2] => { results := [.lit (.bool false)], args := [d1, d2] }
  | _ => none }
def FnExactHasNoSquareWrongFalsely : Prop := fnExactHasNoSquareRow.holds Try.pinned (OpenSpec.ofChange fnExactHasNoSquareWrong)

/-- 'laws.FnExactGapOfBound': WHATEVER THE INPUT: true; the input reads as it did. -/
def fnExactGapOfBoundSpec : ChangeSpec := { name := "fnExactGapOfBound", fn := fun _ => fun
  | [d1, d2] => { results := [.lit (.bool true)], args := [d1, d2] }
  | _ => none }
def fnExactGapOfBoundRow : OpenClaim := { program := "ytlhcokblbkiafab", sum := "a3b38e597b043b4b5edba0ec8f3d022bacf17a5d1a97bc383b336a7da6e688bb", func := "loop.example/g01163/laws.FnExactGapOfBound", spec := "fnExactGapOfBound", unfollowed := true, recurses := true, apart := false }
def FnExactGapOfBoundSaid : Prop := fnExactGapOfBoundRow.holds Try.pinned (OpenSpec.ofChange fnExactGapOfBoundSpec)

/-- ITS FALSE NEIGHBOUR: 'it returns false'. Refute it at one input. -/
def fnExactGapOfBoundWrong : ChangeSpec := { name := "fnExactGapOfBound", fn := fun _ => fun
  | [d1, d2] => { results := [.lit (.bool false)], args := [d1, d2] }
  | _ => none }
def FnExactGapOfBoundWrongFalsely : Prop := fnExactGapOfBoundRow.holds Try.pinned (OpenSpec.ofChange fnExactGapOfBoundWrong)

/-- 'laws.FnExactRemainderPoly': WHATEVER THE INPUT: true; the input reads as it did. -/
def fnExactRemainderPolySpec : ChangeSpec := { name := "fnExactRemainderPoly", fn := fun _ => fun
  | [d1, d2, d3] => { results := [.lit (.bool true)], args := [d1, d2, d3] }
  | _ => none }
def fnExactRemainderPolyRow : OpenClaim := { program := "ytlhcokblbkiafab", sum := "a3b38e597b043b4b5edba0ec8f3d022bacf17a5d1a97bc383b336a7da6e688bb", func := "loop.example/g01163/laws.FnExactRemainderPoly", spec := "fnExactRemainderPoly", unfollowed := true, recurses := true, apart := false }
def FnExactRemainderPolySaid : Prop := fnExactRemainderPolyRow.holds Try.pinned (OpenSpec.ofChange fnExactRemainderPolySpec)

/-- ITS FALSE NEIGHBOUR: 'it returns false'. Refute it at one input. -/
def fnExactRemainderPolyWrong : ChangeSpec := { name := "fnExactRemainderPoly", fn := fun _ => fun
  | [d1, d2, d3] => { results := [.lit (.bool false)], args := [d1, d2, d3] }
  | _ => none }
def FnExactRemainderPolyWrongFalsely : Prop := fnExactRemainderPolyRow.holds Try.pinned (OpenSpec.ofChange fnExactRemainderPolyWrong)

/- THE SECOND FORM. 'bulk': how many values and letters a reading holds, each counted each time it is reached (what is shared counts as often as it is met; a slice's spare places count too). A statement '..UptoSaid' is the law's where the arguments, and the package variables that the reading takes, are together of bulk at most 1048576: NARROWER than '..Said'. Prove '..Said' where nothing that the law and all that it calls make is longer than what came in: it says more and counts as full. Else prove '..UptoSaid'. A law counts once. -/
mutual
def uptoBulk {H : Type} : DataW H → Nat
  | .lit (.string bytes) => bytes.length + 1
  | .lit _ => 1
  | .nil => 1
  | .ptr d => uptoBulk d + 1
  | .slice elems spare => uptoBulkAll elems + uptoBulkAll spare + 1
  | .agg parts => uptoBulkAll parts + 1
  | .iface _ d => uptoBulk d + 1
  | .map entries => uptoBulkEntries entries + 1
  | .held _ => 1
def uptoBulkAll {H : Type} : List (DataW H) → Nat
  | [] => 0
  | d :: r => uptoBulk d + uptoBulkAll r
def uptoBulkEntries {H : Type} : List (Lit × DataW H) → Nat
  | [] => 0
  | x :: r => uptoBulkEntry x + uptoBulkEntries r
def uptoBulkEntry {H : Type} : Lit × DataW H → Nat
  | (.string bytes, d) => bytes.length + uptoBulk d + 1
  | (_, d) => uptoBulk d + 1
 end
def uptoSmall : (H : Type) → List (DataW H) → Bool := fun _ ds => decide (uptoBulkAll ds ≤ 1048576)
def OpenSpec.upto (s : _root_.Go.ChangeSpec) : _root_.Go.OpenSpec := { _root_.Go.OpenSpec.ofChange s with cond := some uptoSmall }

/-- 'laws.FnExactDerivativePoly', WHERE WHAT IT READS IS OF BULK AT MOST 1048576: true; the input reads as it did. -/
def fnExactDerivativePolyUptoRow : OpenClaim := { program := "ytlhcokblbkiafab", sum := "a3b38e597b043b4b5edba0ec8f3d022bacf17a5d1a97bc383b336a7da6e688bb", func := "loop.example/g01163/laws.FnExactDerivativePoly", spec := "fnExactDerivativePoly", unfollowed := true, recurses := true, apart := false, narrowed := true }
def FnExactDerivativePolyUptoSaid : Prop := fnExactDerivativePolyUptoRow.holds Try.pinned (OpenSpec.upto fnExactDerivativePolySpec)

/-- 'laws.FnExactCommonFactor', WHERE WHAT IT READS IS OF BULK AT MOST 1048576: true; the input reads as it did. -/
def fnExactCommonFactorUptoRow : OpenClaim := { program := "ytlhcokblbkiafab", sum := "a3b38e597b043b4b5edba0ec8f3d022bacf17a5d1a97bc383b336a7da6e688bb", func := "loop.example/g01163/laws.FnExactCommonFactor", spec := "fnExactCommonFactor", unfollowed := true, recurses := true, apart := false, narrowed := true }
def FnExactCommonFactorUptoSaid : Prop := fnExactCommonFactorUptoRow.holds Try.pinned (OpenSpec.upto fnExactCommonFactorSpec)

/-- 'laws.FnExactHasNoSquare', WHERE WHAT IT READS IS OF BULK AT MOST 1048576: true; the input reads as it did. -/
def fnExactHasNoSquareUptoRow : OpenClaim := { program := "ytlhcokblbkiafab", sum := "a3b38e597b043b4b5edba0ec8f3d022bacf17a5d1a97bc383b336a7da6e688bb", func := "loop.example/g01163/laws.FnExactHasNoSquare", spec := "fnExactHasNoSquare", unfollowed := true, recurses := true, apart := false, narrowed := true }
def FnExactHasNoSquareUptoSaid : Prop := fnExactHasNoSquareUptoRow.holds Try.pinned (OpenSpec.upto fnExactHasNoSquareSpec)

/-- 'laws.FnExactGapOfBound', WHERE WHAT IT READS IS OF BULK AT MOST 1048576: true; the input reads as it did. -/
def fnExactGapOfBoundUptoRow : OpenClaim := { program := "ytlhcokblbkiafab", sum := "a3b38e597b043b4b5edba0ec8f3d022bacf17a5d1a97bc383b336a7da6e688bb", func := "loop.example/g01163/laws.FnExactGapOfBound", spec := "fnExactGapOfBound", unfollowed := true, recurses := true, apart := false, narrowed := true }
def FnExactGapOfBoundUptoSaid : Prop := fnExactGapOfBoundUptoRow.holds Try.pinned (OpenSpec.upto fnExactGapOfBoundSpec)

/-- 'laws.FnExactRemainderPoly', WHERE WHAT IT READS IS OF BULK AT MOST 1048576: true; the input reads as it did. -/
def fnExactRemainderPolyUptoRow : OpenClaim := { program := "ytlhcokblbkiafab", sum := "a3b38e597b043b4b5edba0ec8f3d022bacf17a5d1a97bc383b336a7da6e688bb", func := "loop.example/g01163/laws.FnExactRemainderPoly", spec := "fnExactRemainderPoly", unfollowed := true, recurses := true, apart := false, narrowed := true }
def FnExactRemainderPolyUptoSaid : Prop := fnExactRemainderPolyUptoRow.holds Try.pinned (OpenSpec.upto fnExactRemainderPolySpec)

end Rows
end Go.Proofs.Ytlhcokblbkiafab
