/-
  No cell of these rows narrows 'for every input' (looked for: loops, veiled, ifaces, maps, wideKeys, modest, calm, conditions, laid).
  DERIVED. THE GIVEN ROWS OF THIS SEAT. 10 by the template 'for every input the law returns true; each argument reads behind the call as it read before'; 0 by the template 'total and deterministic' (their statements: YtgndlpdcebmgmaaTotals.lean).
  GIVEN WITH THE SEED: the statements are not yours to turn. If you find one false, say at which input.
  Laid BY PROGRAM, IN A SANDBOX (cutbox-rows.mjs): the forced cells as the released guide's own fill.sh prints them over the translation 73bf7392ac34b0b4… (all of the seat's roots in one cut). By AI agents, Wed Nov 11 2026. No macro, syntax, notation, axiom, sorry.
-/
import Derived.Test.YtgndlpdcebmgmaaChecked
import GoSem.Claim
import GoSem.ClaimJoined
import GoSem.ClaimMapViews
import Derived.JoinedTies
import Derived.KernelRfl
namespace Go.Proofs.Ytgndlpdcebmgmaa
/- THE CELL 'sum', in the pinned program and in every row, IS THE sha256 OF THE DUMP (.gsa) THAT YtgndlpdcebmgmaaProg.lean LOADS. Nothing in Lean hashes anything: it is a label: what it is worth is what the hold of that sum in a sandbox is worth. -/
noncomputable def Try.pinned : Pinned := { name := "ytgndlpdcebmgmaa", sum := "73bf7392ac34b0b49d1c4b06203240077b3331eedb54096801561153f72591d7", checked := Try.checked }
namespace Rows
def none {H : Type} : Left H := { results := [], args := [] }

/-- 'laws.FnExactDifferencePoly': WHATEVER THE INPUT: true; the input reads as it did. -/
def fnExactDifferencePolySpec : ChangeSpec := { name := "fnExactDifferencePoly", fn := fun _ => fun
  | [d1, d2, d3] => { results := [.lit (.bool true)], args := [d1, d2, d3] }
  | _ => none }
def fnExactDifferencePolyRow : OpenClaim := { program := "ytgndlpdcebmgmaa", sum := "73bf7392ac34b0b49d1c4b06203240077b3331eedb54096801561153f72591d7", func := "loop.example/g01163/laws.FnExactDifferencePoly", spec := "fnExactDifferencePoly", unfollowed := true, recurses := true, apart := false }
def FnExactDifferencePolySaid : Prop := fnExactDifferencePolyRow.holds Try.pinned (OpenSpec.ofChange fnExactDifferencePolySpec)

/-- ITS FALSE NEIGHBOUR: 'it returns false'. Refute it at one input. -/
def fnExactDifferencePolyWrong : ChangeSpec := { name := "fnExactDifferencePoly", fn := fun _ => fun
  | [d1, d2, d3] => { results := [.lit (.bool false)], args := [d1, d2, d3] }
  | _ => none }
def FnExactDifferencePolyWrongFalsely : Prop := fnExactDifferencePolyRow.holds Try.pinned (OpenSpec.ofChange fnExactDifferencePolyWrong)

/-- 'laws.FnExactDifferenceCounts': WHATEVER THE INPUT: true; the input reads as it did. -/
def fnExactDifferenceCountsSpec : ChangeSpec := { name := "fnExactDifferenceCounts", fn := fun _ => fun
  | [d1, d2, d3] => { results := [.lit (.bool true)], args := [d1, d2, d3] }
  | _ => none }
def fnExactDifferenceCountsRow : OpenClaim := { program := "ytgndlpdcebmgmaa", sum := "73bf7392ac34b0b49d1c4b06203240077b3331eedb54096801561153f72591d7", func := "loop.example/g01163/laws.FnExactDifferenceCounts", spec := "fnExactDifferenceCounts", unfollowed := true, recurses := true, apart := false }
def FnExactDifferenceCountsSaid : Prop := fnExactDifferenceCountsRow.holds Try.pinned (OpenSpec.ofChange fnExactDifferenceCountsSpec)

/-- ITS FALSE NEIGHBOUR: 'it returns false'. Refute it at one input. -/
def fnExactDifferenceCountsWrong : ChangeSpec := { name := "fnExactDifferenceCounts", fn := fun _ => fun
  | [d1, d2, d3] => { results := [.lit (.bool false)], args := [d1, d2, d3] }
  | _ => none }
def FnExactDifferenceCountsWrongFalsely : Prop := fnExactDifferenceCountsRow.holds Try.pinned (OpenSpec.ofChange fnExactDifferenceCountsWrong)

/-- 'laws.FnExactGreatestCount': WHATEVER THE INPUT: true; the input reads as it did. -/
def fnExactGreatestCountSpec : ChangeSpec := { name := "fnExactGreatestCount", fn := fun _ => fun
  | [d1, d2] => { results := [.lit (.bool true)], args := [d1, d2] }
  | _ => none }
def fnExactGreatestCountRow : OpenClaim := { program := "ytgndlpdcebmgmaa", sum := "73bf7392ac34b0b49d1c4b06203240077b3331eedb54096801561153f72591d7", func := "loop.example/g01163/laws.FnExactGreatestCount", spec := "fnExactGreatestCount", unfollowed := true, recurses := true, apart := false }
def FnExactGreatestCountSaid : Prop := fnExactGreatestCountRow.holds Try.pinned (OpenSpec.ofChange fnExactGreatestCountSpec)

/-- ITS FALSE NEIGHBOUR: 'it returns false'. Refute it at one input. -/
def fnExactGreatestCountWrong : ChangeSpec := { name := "fnExactGreatestCount", fn := fun _ => fun
  | [d1, d2] => { results := [.lit (.bool false)], args := [d1, d2] }
  | _ => none }
def FnExactGreatestCountWrongFalsely : Prop := fnExactGreatestCountRow.holds Try.pinned (OpenSpec.ofChange fnExactGreatestCountWrong)

/-- 'laws.FnExactSpreadOfCounts': WHATEVER THE INPUT: true; the input reads as it did. -/
def fnExactSpreadOfCountsSpec : ChangeSpec := { name := "fnExactSpreadOfCounts", fn := fun _ => fun
  | [d1, d2] => { results := [.lit (.bool true)], args := [d1, d2] }
  | _ => none }
def fnExactSpreadOfCountsRow : OpenClaim := { program := "ytgndlpdcebmgmaa", sum := "73bf7392ac34b0b49d1c4b06203240077b3331eedb54096801561153f72591d7", func := "loop.example/g01163/laws.FnExactSpreadOfCounts", spec := "fnExactSpreadOfCounts", unfollowed := true, recurses := true, apart := false }
def FnExactSpreadOfCountsSaid : Prop := fnExactSpreadOfCountsRow.holds Try.pinned (OpenSpec.ofChange fnExactSpreadOfCountsSpec)

/-- ITS FALSE NEIGHBOUR: 'it returns false'. Refute it at one input. -/
def fnExactSpreadOfCountsWrong : ChangeSpec := { name := "fnExactSpreadOfCounts", fn := fun _ => fun
  | [d1, d2] => { results := [.lit (.bool false)], args := [d1, d2] }
  | _ => none }
def FnExactSpreadOfCountsWrongFalsely : Prop := fnExactSpreadOfCountsRow.holds Try.pinned (OpenSpec.ofChange fnExactSpreadOfCountsWrong)

/-- 'laws.FnExactIsPlanar': WHATEVER THE INPUT: true; the input reads as it did. -/
def fnExactIsPlanarSpec : ChangeSpec := { name := "fnExactIsPlanar", fn := fun _ => fun
  | [d1, d2] => { results := [.lit (.bool true)], args := [d1, d2] }
  | _ => none }
def fnExactIsPlanarRow : OpenClaim := { program := "ytgndlpdcebmgmaa", sum := "73bf7392ac34b0b49d1c4b06203240077b3331eedb54096801561153f72591d7", func := "loop.example/g01163/laws.FnExactIsPlanar", spec := "fnExactIsPlanar", unfollowed := true, recurses := true, apart := false }
def FnExactIsPlanarSaid : Prop := fnExactIsPlanarRow.holds Try.pinned (OpenSpec.ofChange fnExactIsPlanarSpec)

/-- ITS FALSE NEIGHBOUR: 'it returns false'. Refute it at one input. -/
def fnExactIsPlanarWrong : ChangeSpec := { name := "fnExactIsPlanar", fn := fun _ => fun
  | [d1, d2] => { results := [.lit (.bool false)], args := [d1, d2] }
  | _ => none }
def FnExactIsPlanarWrongFalsely : Prop := fnExactIsPlanarRow.holds Try.pinned (OpenSpec.ofChange fnExactIsPlanarWrong)

/-- 'laws.FnExactIsAlmostPerfect': WHATEVER THE INPUT: true; the input reads as it did. -/
def fnExactIsAlmostPerfectSpec : ChangeSpec := { name := "fnExactIsAlmostPerfect", fn := fun _ => fun
  | [d1, d2] => { results := [.lit (.bool true)], args := [d1, d2] }
  | _ => none }
def fnExactIsAlmostPerfectRow : OpenClaim := { program := "ytgndlpdcebmgmaa", sum := "73bf7392ac34b0b49d1c4b06203240077b3331eedb54096801561153f72591d7", func := "loop.example/g01163/laws.FnExactIsAlmostPerfect", spec := "fnExactIsAlmostPerfect", unfollowed := true, recurses := true, apart := false }
def FnExactIsAlmostPerfectSaid : Prop := fnExactIsAlmostPerfectRow.holds Try.pinned (OpenSpec.ofChange fnExactIsAlmostPerfectSpec)

/-- ITS FALSE NEIGHBOUR: 'it returns false'. Refute it at one input. -/
def fnExactIsAlmostPerfectWrong : ChangeSpec := { name := "fnExactIsAlmostPerfect", fn := fun _ => fun
  | [d1, d2] => { results := [.lit (.bool false)], args := [d1, d2] }
  | _ => none }
def FnExactIsAlmostPerfectWrongFalsely : Prop := fnExactIsAlmostPerfectRow.holds Try.pinned (OpenSpec.ofChange fnExactIsAlmostPerfectWrong)

/-- 'laws.FnExactFirstRepeated': WHATEVER THE INPUT: true; the input reads as it did. -/
def fnExactFirstRepeatedSpec : ChangeSpec := { name := "fnExactFirstRepeated", fn := fun _ => fun
  | [d1, d2] => { results := [.lit (.bool true)], args := [d1, d2] }
  | _ => none }
def fnExactFirstRepeatedRow : OpenClaim := { program := "ytgndlpdcebmgmaa", sum := "73bf7392ac34b0b49d1c4b06203240077b3331eedb54096801561153f72591d7", func := "loop.example/g01163/laws.FnExactFirstRepeated", spec := "fnExactFirstRepeated", unfollowed := true, recurses := true, apart := false }
def FnExactFirstRepeatedSaid : Prop := fnExactFirstRepeatedRow.holds Try.pinned (OpenSpec.ofChange fnExactFirstRepeatedSpec)

/-- ITS FALSE NEIGHBOUR: 'it returns false'. Refute it at one input. -/
def fnExactFirstRepeatedWrong : ChangeSpec := { name := "fnExactFirstRepeated", fn := fun _ => fun
  | [d1, d2] => { results := [.lit (.bool false)], args := [d1, d2] }
  | _ => none }
def FnExactFirstRepeatedWrongFalsely : Prop := fnExactFirstRepeatedRow.holds Try.pinned (OpenSpec.ofChange fnExactFirstRepeatedWrong)

/-- 'laws.FnExactMoveMap': WHATEVER THE INPUT: true; the input reads as it did. -/
def fnExactMoveMapSpec : ChangeSpec := { name := "fnExactMoveMap", fn := fun _ => fun
  | [d1, d2, d3, d4, d5, d6] => { results := [.lit (.bool true)], args := [d1, d2, d3, d4, d5, d6] }
  | _ => none }
def fnExactMoveMapRow : OpenClaim := { program := "ytgndlpdcebmgmaa", sum := "73bf7392ac34b0b49d1c4b06203240077b3331eedb54096801561153f72591d7", func := "loop.example/g01163/laws.FnExactMoveMap", spec := "fnExactMoveMap", unfollowed := true, recurses := true, apart := false }
def FnExactMoveMapSaid : Prop := fnExactMoveMapRow.holds Try.pinned (OpenSpec.ofChange fnExactMoveMapSpec)

/-- ITS FALSE NEIGHBOUR: 'it returns false'. Refute it at one input. -/
def fnExactMoveMapWrong : ChangeSpec := { name := "fnExactMoveMap", fn := fun _ => fun
  | [d1, d2, d3, d4, d5, d6] => { results := [.lit (.bool false)], args := [d1, d2, d3, d4, d5, d6] }
  | _ => none }
def FnExactMoveMapWrongFalsely : Prop := fnExactMoveMapRow.holds Try.pinned (OpenSpec.ofChange fnExactMoveMapWrong)

/-- 'laws.FnExactSecondDifference': WHATEVER THE INPUT: true; the input reads as it did. -/
def fnExactSecondDifferenceSpec : ChangeSpec := { name := "fnExactSecondDifference", fn := fun _ => fun
  | [d1, d2, d3, d4] => { results := [.lit (.bool true)], args := [d1, d2, d3, d4] }
  | _ => none }
def fnExactSecondDifferenceRow : OpenClaim := { program := "ytgndlpdcebmgmaa", sum := "73bf7392ac34b0b49d1c4b06203240077b3331eedb54096801561153f72591d7", func := "loop.example/g01163/laws.FnExactSecondDifference", spec := "fnExactSecondDifference", unfollowed := true, recurses := true, apart := false }
def FnExactSecondDifferenceSaid : Prop := fnExactSecondDifferenceRow.holds Try.pinned (OpenSpec.ofChange fnExactSecondDifferenceSpec)

/-- ITS FALSE NEIGHBOUR: 'it returns false'. Refute it at one input. -/
def fnExactSecondDifferenceWrong : ChangeSpec := { name := "fnExactSecondDifference", fn := fun _ => fun
  | [d1, d2, d3, d4] => { results := [.lit (.bool false)], args := [d1, d2, d3, d4] }
  | _ => none }
def FnExactSecondDifferenceWrongFalsely : Prop := fnExactSecondDifferenceRow.holds Try.pinned (OpenSpec.ofChange fnExactSecondDifferenceWrong)

/-- 'laws.FnExactShiftPoly': WHATEVER THE INPUT: true; the input reads as it did. -/
def fnExactShiftPolySpec : ChangeSpec := { name := "fnExactShiftPoly", fn := fun _ => fun
  | [d1, d2, d3] => { results := [.lit (.bool true)], args := [d1, d2, d3] }
  | _ => none }
def fnExactShiftPolyRow : OpenClaim := { program := "ytgndlpdcebmgmaa", sum := "73bf7392ac34b0b49d1c4b06203240077b3331eedb54096801561153f72591d7", func := "loop.example/g01163/laws.FnExactShiftPoly", spec := "fnExactShiftPoly", unfollowed := true, recurses := true, apart := false }
def FnExactShiftPolySaid : Prop := fnExactShiftPolyRow.holds Try.pinned (OpenSpec.ofChange fnExactShiftPolySpec)

/-- ITS FALSE NEIGHBOUR: 'it returns false'. Refute it at one input. -/
def fnExactShiftPolyWrong : ChangeSpec := { name := "fnExactShiftPoly", fn := fun _ => fun
  | [d1, d2, d3] => { results := [.lit (.bool false)], args := [d1, d2, d3] }
  | _ => none }
def FnExactShiftPolyWrongFalsely : Prop := fnExactShiftPolyRow.holds Try.pinned (OpenSpec.ofChange fnExactShiftPolyWrong)

/- THE SECOND FORM. 'bulk': how many values and letters a reading holds, each counted each time it is reached (what is shared counts as often as it is met; a slice's spare places count too). A statement '..UptoSaid' is the law's where the arguments, and the package variables that the reading takes, are together of bulk at most 1048576: NARROWER than '..Said'. Prove '..Said' where nothing that the law and all that it calls make is longer than what came in: it says more and counts as full. Else prove '..UptoSaid'. A law counts once. -/
mutual
def uptoBulk {H : Type} : DataW H → Nat
  | .lit (.string bytes) => bytes.length + 1
  | .lit _ => 1
  | .nil => 1
  | .ptr d => uptoBulk d + 1
  | .slice elems spare => uptoBulkAll elems + uptoBulkAll spare + 1
  | .agg parts => uptoBulkAll parts + 1
  | .iface _ d => uptoBulk d + 1
  | .map entries => uptoBulkEntries entries + 1
  | .held _ => 1
def uptoBulkAll {H : Type} : List (DataW H) → Nat
  | [] => 0
  | d :: r => uptoBulk d + uptoBulkAll r
def uptoBulkEntries {H : Type} : List (Lit × DataW H) → Nat
  | [] => 0
  | x :: r => uptoBulkEntry x + uptoBulkEntries r
def uptoBulkEntry {H : Type} : Lit × DataW H → Nat
  | (.string bytes, d) => bytes.length + uptoBulk d + 1
  | (_, d) => uptoBulk d + 1
 end
def uptoSmall : (H : Type) → List (DataW H) → Bool := fun _ ds => decide (uptoBulkAll ds ≤ 1048576)
def OpenSpec.upto (s : _root_.Go.ChangeSpec) : _root_.Go.OpenSpec := { _root_.Go.OpenSpec.ofChange s with cond := some uptoSmall }

/-- 'laws.FnExactDifferencePoly', WHERE WHAT IT READS IS OF BULK AT MOST 1048576: true; the input reads as it did. -/
def fnExactDifferencePolyUptoRow : OpenClaim := { program := "ytgndlpdcebmgmaa", sum := "73bf7392ac34b0b49d1c4b06203240077b3331eedb54096801561153f72591d7", func := "loop.example/g01163/laws.FnExactDifferencePoly", spec := "fnExactDifferencePoly", unfollowed := true, recurses := true, apart := false, narrowed := true }
def FnExactDifferencePolyUptoSaid : Prop := fnExactDifferencePolyUptoRow.holds Try.pinned (OpenSpec.upto fnExactDifferencePolySpec)

/-- 'laws.FnExactDifferenceCounts', WHERE WHAT IT READS IS OF BULK AT MOST 1048576: true; the input reads as it did. -/
def fnExactDifferenceCountsUptoRow : OpenClaim := { program := "ytgndlpdcebmgmaa", sum := "73bf7392ac34b0b49d1c4b06203240077b3331eedb54096801561153f72591d7", func := "loop.example/g01163/laws.FnExactDifferenceCounts", spec := "fnExactDifferenceCounts", unfollowed := true, recurses := true, apart := false, narrowed := true }
def FnExactDifferenceCountsUptoSaid : Prop := fnExactDifferenceCountsUptoRow.holds Try.pinned (OpenSpec.upto fnExactDifferenceCountsSpec)

/-- 'laws.FnExactGreatestCount', WHERE WHAT IT READS IS OF BULK AT MOST 1048576: true; the input reads as it did. -/
def fnExactGreatestCountUptoRow : OpenClaim := { program := "ytgndlpdcebmgmaa", sum := "73bf7392ac34b0b49d1c4b06203240077b3331eedb54096801561153f72591d7", func := "loop.example/g01163/laws.FnExactGreatestCount", spec := "fnExactGreatestCount", unfollowed := true, recurses := true, apart := false, narrowed := true }
def FnExactGreatestCountUptoSaid : Prop := fnExactGreatestCountUptoRow.holds Try.pinned (OpenSpec.upto fnExactGreatestCountSpec)

/-- 'laws.FnExactSpreadOfCounts', WHERE WHAT IT READS IS OF BULK AT MOST 1048576: true; the input reads as it did. -/
def fnExactSpreadOfCountsUptoRow : OpenClaim := { program := "ytgndlpdcebmgmaa", sum := "73bf7392ac34b0b49d1c4b06203240077b3331eedb54096801561153f72591d7", func := "loop.example/g01163/laws.FnExactSpreadOfCounts", spec := "fnExactSpreadOfCounts", unfollowed := true, recurses := true, apart := false, narrowed := true }
def FnExactSpreadOfCountsUptoSaid : Prop := fnExactSpreadOfCountsUptoRow.holds Try.pinned (OpenSpec.upto fnExactSpreadOfCountsSpec)

/-- 'laws.FnExactIsPlanar', WHERE WHAT IT READS IS OF BULK AT MOST 1048576: true; the input reads as it did. -/
def fnExactIsPlanarUptoRow : OpenClaim := { program := "ytgndlpdcebmgmaa", sum := "73bf7392ac34b0b49d1c4b06203240077b3331eedb54096801561153f72591d7", func := "loop.example/g01163/laws.FnExactIsPlanar", spec := "fnExactIsPlanar", unfollowed := true, recurses := true, apart := false, narrowed := true }
def FnExactIsPlanarUptoSaid : Prop := fnExactIsPlanarUptoRow.holds Try.pinned (OpenSpec.upto fnExactIsPlanarSpec)

/-- 'laws.FnExactIsAlmostPerfect', WHERE WHAT IT READS IS OF BULK AT MOST 1048576: true; the input reads as it did. -/
def fnExactIsAlmostPerfectUptoRow : OpenClaim := { program := "ytgndlpdcebmgmaa", sum := "73bf7392ac34b0b49d1c4b06203240077b3331eedb54096801561153f72591d7", func := "loop.example/g01163/laws.FnExactIsAlmostPerfect", spec := "fnExactIsAlmostPerfect", unfollowed := true, recurses := true, apart := false, narrowed := true }
def FnExactIsAlmostPerfectUptoSaid : Prop := fnExactIsAlmostPerfectUptoRow.holds Try.pinned (OpenSpec.upto fnExactIsAlmostPerfectSpec)

/-- 'laws.FnExactFirstRepeated', WHERE WHAT IT READS IS OF BULK AT MOST 1048576: true; the input reads as it did. -/
def fnExactFirstRepeatedUptoRow : OpenClaim := { program := "ytgndlpdcebmgmaa", sum := "73bf7392ac34b0b49d1c4b06203240077b3331eedb54096801561153f72591d7", func := "loop.example/g01163/laws.FnExactFirstRepeated", spec := "fnExactFirstRepeated", unfollowed := true, recurses := true, apart := false, narrowed := true }
def FnExactFirstRepeatedUptoSaid : Prop := fnExactFirstRepeatedUptoRow.holds Try.pinned (OpenSpec.upto fnExactFirstRepeatedSpec)

/-- 'laws.FnExactMoveMap', WHERE WHAT IT READS IS OF BULK AT MOST 1048576: true; the input reads as it did. -/
def fnExactMoveMapUptoRow : OpenClaim := { program := "ytgndlpdcebmgmaa", sum := "73bf7392ac34b0b49d1c4b06203240077b3331eedb54096801561153f72591d7", func := "loop.example/g01163/laws.FnExactMoveMap", spec := "fnExactMoveMap", unfollowed := true, recurses := true, apart := false, narrowed := true }
def FnExactMoveMapUptoSaid : Prop := fnExactMoveMapUptoRow.holds Try.pinned (OpenSpec.upto fnExactMoveMapSpec)

/-- 'laws.FnExactSecondDifference', WHERE WHAT IT READS IS OF BULK AT MOST 1048576: true; the input reads as it did. -/
def fnExactSecondDifferenceUptoRow : OpenClaim := { program := "ytgndlpdcebmgmaa", sum := "73bf7392ac34b0b49d1c4b06203240077b3331eedb54096801561153f72591d7", func := "loop.example/g01163/laws.FnExactSecondDifference", spec := "fnExactSecondDifference", unfollowed := true, recurses := true, apart := false, narrowed := true }
def FnExactSecondDifferenceUptoSaid : Prop := fnExactSecondDifferenceUptoRow.holds Try.pinned (OpenSpec.upto fnExactSecondDifferenceSpec)

/-- 'laws.FnExactShiftPoly', WHERE WHAT IT READS IS OF BULK AT MOST 1048576: true; the input reads as it did. -/
def fnExactShiftPolyUptoRow : OpenClaim := { program := "ytgndlpdcebmgmaa", sum := "73bf7392ac34b0b49d1c4b06203240077b3331eedb54096801561153f72591d7", func := "loop.example/g01163/laws.FnExactShiftPoly", spec := "fnExactShiftPoly", unfollowed := true, recurses := true, apart := false, narrowed := true }
def FnExactShiftPolyUptoSaid : Prop := fnExactShiftPolyUptoRow.holds Try.pinned (OpenSpec.upto fnExactShiftPolySpec)

end Rows
end Go.Proofs.Ytgndlpdcebmgmaa
