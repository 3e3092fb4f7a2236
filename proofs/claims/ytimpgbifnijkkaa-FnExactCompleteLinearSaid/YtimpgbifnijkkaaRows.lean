/-
  No cell of these rows narrows 'for every input' (looked for: loops, veiled, ifaces, maps, wideKeys, modest, calm, conditions, laid).
  DERIVED. THE GIVEN ROWS OF THIS SEAT. 10 by the template 'for every input the law returns true; each argument reads behind the call as it read before'; 0 by the template 'total and deterministic' (their statements: YtimpgbifnijkkaaTotals.lean).
  GIVEN WITH THE SEED: the statements are not yours to turn. If you find one false, say at which input.
  Laid BY PROGRAM, IN A SANDBOX (cutbox-rows.mjs): the forced cells as the released guide's own fill.sh prints them over the translation f858aaa57ecb79e4… (all of the seat's roots in one cut). By AI agents, Wed Nov 11 2026. No macro, syntax, notation, axiom, sorry.
-/
import Derived.Test.YtimpgbifnijkkaaChecked
import GoSem.Claim
import GoSem.ClaimJoined
import GoSem.ClaimMapViews
import Derived.JoinedTies
import Derived.KernelRfl
namespace Go.Proofs.Ytimpgbifnijkkaa
/- THE CELL 'sum', in the pinned program and in every row, IS THE sha256 OF THE DUMP (.gsa) THAT YtimpgbifnijkkaaProg.lean LOADS. Nothing in Lean hashes anything: it is a label: what it is worth is what the hold of that sum in a sandbox is worth. -/
noncomputable def Try.pinned : Pinned := { name := "ytimpgbifnijkkaa", sum := "f858aaa57ecb79e48bb5eec5e63a1422f81ba6b1708148e38c71c26e113ec1f0", checked := Try.checked }
namespace Rows
def none {H : Type} : Left H := { results := [], args := [] }

/-- 'laws.FnExactIsComplete': WHATEVER THE INPUT: true; the input reads as it did. -/
def fnExactIsCompleteSpec : ChangeSpec := { name := "fnExactIsComplete", fn := fun _ => fun
  | [d1, d2] => { results := [.lit (.bool true)], args := [d1, d2] }
  | _ => none }
def fnExactIsCompleteRow : OpenClaim := { program := "ytimpgbifnijkkaa", sum := "f858aaa57ecb79e48bb5eec5e63a1422f81ba6b1708148e38c71c26e113ec1f0", func := "loop.example/g01163/laws.FnExactIsComplete", spec := "fnExactIsComplete", inPlace := ["maps.clone"], unfollowed := true, recurses := true, apart := false }
def FnExactIsCompleteSaid : Prop := fnExactIsCompleteRow.holds Try.pinned (OpenSpec.ofChange fnExactIsCompleteSpec)

/-- ITS FALSE NEIGHBOUR: 'it returns false'. Refute it at one input. -/
def fnExactIsCompleteWrong : ChangeSpec := { name := "fnExactIsComplete", fn := fun _ => fun
  | [d1, d2] => { results := [.lit (.bool false)], args := [d1, d2] }
  | _ => none }
def FnExactIsCompleteWrongFalsely : Prop := fnExactIsCompleteRow.holds Try.pinned (OpenSpec.ofChange fnExactIsCompleteWrong)

/-- 'laws.FnExactPlusX': WHATEVER THE INPUT: true; the input reads as it did. -/
def fnExactPlusXSpec : ChangeSpec := { name := "fnExactPlusX", fn := fun _ => fun
  | [d1, d2] => { results := [.lit (.bool true)], args := [d1, d2] }
  | _ => none }
def fnExactPlusXRow : OpenClaim := { program := "ytimpgbifnijkkaa", sum := "f858aaa57ecb79e48bb5eec5e63a1422f81ba6b1708148e38c71c26e113ec1f0", func := "loop.example/g01163/laws.FnExactPlusX", spec := "fnExactPlusX", unfollowed := true, recurses := true, apart := false }
def FnExactPlusXSaid : Prop := fnExactPlusXRow.holds Try.pinned (OpenSpec.ofChange fnExactPlusXSpec)

/-- ITS FALSE NEIGHBOUR: 'it returns false'. Refute it at one input. -/
def fnExactPlusXWrong : ChangeSpec := { name := "fnExactPlusX", fn := fun _ => fun
  | [d1, d2] => { results := [.lit (.bool false)], args := [d1, d2] }
  | _ => none }
def FnExactPlusXWrongFalsely : Prop := fnExactPlusXRow.holds Try.pinned (OpenSpec.ofChange fnExactPlusXWrong)

/-- 'laws.FnExactInverseComplete': WHATEVER THE INPUT: true; the input reads as it did. -/
def fnExactInverseCompleteSpec : ChangeSpec := { name := "fnExactInverseComplete", fn := fun _ => fun
  | [d1, d2] => { results := [.lit (.bool true)], args := [d1, d2] }
  | _ => none }
def fnExactInverseCompleteRow : OpenClaim := { program := "ytimpgbifnijkkaa", sum := "f858aaa57ecb79e48bb5eec5e63a1422f81ba6b1708148e38c71c26e113ec1f0", func := "loop.example/g01163/laws.FnExactInverseComplete", spec := "fnExactInverseComplete", inPlace := ["maps.clone"], unfollowed := true, recurses := true, apart := false }
def FnExactInverseCompleteSaid : Prop := fnExactInverseCompleteRow.holds Try.pinned (OpenSpec.ofChange fnExactInverseCompleteSpec)

/-- ITS FALSE NEIGHBOUR: 'it returns false'. Refute it at one input. -/
def fnExactInverseCompleteWrong : ChangeSpec := { name := "fnExactInverseComplete", fn := fun _ => fun
  | [d1, d2] => { results := [.lit (.bool false)], args := [d1, d2] }
  | _ => none }
def FnExactInverseCompleteWrongFalsely : Prop := fnExactInverseCompleteRow.holds Try.pinned (OpenSpec.ofChange fnExactInverseCompleteWrong)

/-- 'laws.FnExactNegatedInverse': WHATEVER THE INPUT: true; the input reads as it did. -/
def fnExactNegatedInverseSpec : ChangeSpec := { name := "fnExactNegatedInverse", fn := fun _ => fun
  | [d1, d2] => { results := [.lit (.bool true)], args := [d1, d2] }
  | _ => none }
def fnExactNegatedInverseRow : OpenClaim := { program := "ytimpgbifnijkkaa", sum := "f858aaa57ecb79e48bb5eec5e63a1422f81ba6b1708148e38c71c26e113ec1f0", func := "loop.example/g01163/laws.FnExactNegatedInverse", spec := "fnExactNegatedInverse", inPlace := ["maps.clone"], unfollowed := true, recurses := true, apart := false }
def FnExactNegatedInverseSaid : Prop := fnExactNegatedInverseRow.holds Try.pinned (OpenSpec.ofChange fnExactNegatedInverseSpec)

/-- ITS FALSE NEIGHBOUR: 'it returns false'. Refute it at one input. -/
def fnExactNegatedInverseWrong : ChangeSpec := { name := "fnExactNegatedInverse", fn := fun _ => fun
  | [d1, d2] => { results := [.lit (.bool false)], args := [d1, d2] }
  | _ => none }
def FnExactNegatedInverseWrongFalsely : Prop := fnExactNegatedInverseRow.holds Try.pinned (OpenSpec.ofChange fnExactNegatedInverseWrong)

/-- 'laws.FnExactMoveComplete': WHATEVER THE INPUT: true; the input reads as it did. -/
def fnExactMoveCompleteSpec : ChangeSpec := { name := "fnExactMoveComplete", fn := fun _ => fun
  | [d1, d2, d3, d4] => { results := [.lit (.bool true)], args := [d1, d2, d3, d4] }
  | _ => none }
def fnExactMoveCompleteRow : OpenClaim := { program := "ytimpgbifnijkkaa", sum := "f858aaa57ecb79e48bb5eec5e63a1422f81ba6b1708148e38c71c26e113ec1f0", func := "loop.example/g01163/laws.FnExactMoveComplete", spec := "fnExactMoveComplete", inPlace := ["maps.clone"], unfollowed := true, recurses := true, apart := false }
def FnExactMoveCompleteSaid : Prop := fnExactMoveCompleteRow.holds Try.pinned (OpenSpec.ofChange fnExactMoveCompleteSpec)

/-- ITS FALSE NEIGHBOUR: 'it returns false'. Refute it at one input. -/
def fnExactMoveCompleteWrong : ChangeSpec := { name := "fnExactMoveComplete", fn := fun _ => fun
  | [d1, d2, d3, d4] => { results := [.lit (.bool false)], args := [d1, d2, d3, d4] }
  | _ => none }
def FnExactMoveCompleteWrongFalsely : Prop := fnExactMoveCompleteRow.holds Try.pinned (OpenSpec.ofChange fnExactMoveCompleteWrong)

/-- 'laws.FnExactNormalOf': WHATEVER THE INPUT: true; the input reads as it did. -/
def fnExactNormalOfSpec : ChangeSpec := { name := "fnExactNormalOf", fn := fun _ => fun
  | [d1, d2] => { results := [.lit (.bool true)], args := [d1, d2] }
  | _ => none }
def fnExactNormalOfRow : OpenClaim := { program := "ytimpgbifnijkkaa", sum := "f858aaa57ecb79e48bb5eec5e63a1422f81ba6b1708148e38c71c26e113ec1f0", func := "loop.example/g01163/laws.FnExactNormalOf", spec := "fnExactNormalOf", unfollowed := true, recurses := true, apart := false }
def FnExactNormalOfSaid : Prop := fnExactNormalOfRow.holds Try.pinned (OpenSpec.ofChange fnExactNormalOfSpec)

/-- ITS FALSE NEIGHBOUR: 'it returns false'. Refute it at one input. -/
def fnExactNormalOfWrong : ChangeSpec := { name := "fnExactNormalOf", fn := fun _ => fun
  | [d1, d2] => { results := [.lit (.bool false)], args := [d1, d2] }
  | _ => none }
def FnExactNormalOfWrongFalsely : Prop := fnExactNormalOfRow.holds Try.pinned (OpenSpec.ofChange fnExactNormalOfWrong)

/-- 'laws.FnExactWaysComplete': WHATEVER THE INPUT: true; the input reads as it did. -/
def fnExactWaysCompleteSpec : ChangeSpec := { name := "fnExactWaysComplete", fn := fun _ => fun
  | [d1, d2, d3] => { results := [.lit (.bool true)], args := [d1, d2, d3] }
  | _ => none }
def fnExactWaysCompleteRow : OpenClaim := { program := "ytimpgbifnijkkaa", sum := "f858aaa57ecb79e48bb5eec5e63a1422f81ba6b1708148e38c71c26e113ec1f0", func := "loop.example/g01163/laws.FnExactWaysComplete", spec := "fnExactWaysComplete", apart := false }
def FnExactWaysCompleteSaid : Prop := fnExactWaysCompleteRow.holds Try.pinned (OpenSpec.ofChange fnExactWaysCompleteSpec)

/-- ITS FALSE NEIGHBOUR: 'it returns false'. Refute it at one input. -/
def fnExactWaysCompleteWrong : ChangeSpec := { name := "fnExactWaysComplete", fn := fun _ => fun
  | [d1, d2, d3] => { results := [.lit (.bool false)], args := [d1, d2, d3] }
  | _ => none }
def FnExactWaysCompleteWrongFalsely : Prop := fnExactWaysCompleteRow.holds Try.pinned (OpenSpec.ofChange fnExactWaysCompleteWrong)

/-- 'laws.FnExactCountWaysComplete': WHATEVER THE INPUT: true; the input reads as it did. -/
def fnExactCountWaysCompleteSpec : ChangeSpec := { name := "fnExactCountWaysComplete", fn := fun _ => fun
  | [d] => { results := [.lit (.bool true)], args := [d] }
  | _ => none }
def fnExactCountWaysCompleteRow : OpenClaim := { program := "ytimpgbifnijkkaa", sum := "f858aaa57ecb79e48bb5eec5e63a1422f81ba6b1708148e38c71c26e113ec1f0", func := "loop.example/g01163/laws.FnExactCountWaysComplete", spec := "fnExactCountWaysComplete", apart := false }
def FnExactCountWaysCompleteSaid : Prop := fnExactCountWaysCompleteRow.holds Try.pinned (OpenSpec.ofChange fnExactCountWaysCompleteSpec)

/-- ITS FALSE NEIGHBOUR: 'it returns false'. Refute it at one input. -/
def fnExactCountWaysCompleteWrong : ChangeSpec := { name := "fnExactCountWaysComplete", fn := fun _ => fun
  | [d] => { results := [.lit (.bool false)], args := [d] }
  | _ => none }
def FnExactCountWaysCompleteWrongFalsely : Prop := fnExactCountWaysCompleteRow.holds Try.pinned (OpenSpec.ofChange fnExactCountWaysCompleteWrong)

/-- 'laws.FnExactCompleteLinear': WHATEVER THE INPUT: true; the input reads as it did. -/
def fnExactCompleteLinearSpec : ChangeSpec := { name := "fnExactCompleteLinear", fn := fun _ => fun
  | [d] => { results := [.lit (.bool true)], args := [d] }
  | _ => none }
def fnExactCompleteLinearRow : OpenClaim := { program := "ytimpgbifnijkkaa", sum := "f858aaa57ecb79e48bb5eec5e63a1422f81ba6b1708148e38c71c26e113ec1f0", func := "loop.example/g01163/laws.FnExactCompleteLinear", spec := "fnExactCompleteLinear", unfollowed := true, recurses := true, apart := false }
def FnExactCompleteLinearSaid : Prop := fnExactCompleteLinearRow.holds Try.pinned (OpenSpec.ofChange fnExactCompleteLinearSpec)

/-- ITS FALSE NEIGHBOUR: 'it returns false'. Refute it at one input. -/
def fnExactCompleteLinearWrong : ChangeSpec := { name := "fnExactCompleteLinear", fn := fun _ => fun
  | [d] => { results := [.lit (.bool false)], args := [d] }
  | _ => none }
def FnExactCompleteLinearWrongFalsely : Prop := fnExactCompleteLinearRow.holds Try.pinned (OpenSpec.ofChange fnExactCompleteLinearWrong)

/-- 'laws.FnExactSquareOfMap': WHATEVER THE INPUT: true; the input reads as it did. -/
def fnExactSquareOfMapSpec : ChangeSpec := { name := "fnExactSquareOfMap", fn := fun _ => fun
  | [d1, d2] => { results := [.lit (.bool true)], args := [d1, d2] }
  | _ => none }
def fnExactSquareOfMapRow : OpenClaim := { program := "ytimpgbifnijkkaa", sum := "f858aaa57ecb79e48bb5eec5e63a1422f81ba6b1708148e38c71c26e113ec1f0", func := "loop.example/g01163/laws.FnExactSquareOfMap", spec := "fnExactSquareOfMap", inPlace := ["maps.clone"], unfollowed := true, recurses := true, apart := false }
def FnExactSquareOfMapSaid : Prop := fnExactSquareOfMapRow.holds Try.pinned (OpenSpec.ofChange fnExactSquareOfMapSpec)

/-- ITS FALSE NEIGHBOUR: 'it returns false'. Refute it at one input. -/
def fnExactSquareOfMapWrong : ChangeSpec := { name := "fnExactSquareOfMap", fn := fun _ => fun
  | [d1, d2] => { results := [.lit (.bool false)], args := [d1, d2] }
  | _ => none }
def FnExactSquareOfMapWrongFalsely : Prop := fnExactSquareOfMapRow.holds Try.pinned (OpenSpec.ofChange fnExactSquareOfMapWrong)

/- THE SECOND FORM. 'bulk': how many values and letters a reading holds, each counted each time it is reached (what is shared counts as often as it is met; a slice's spare places count too). A statement '..UptoSaid' is the law's where the arguments, and the package variables that the reading takes, are together of bulk at most 1048576: NARROWER than '..Said'. Prove '..Said' where nothing that the law and all that it calls make is longer than what came in: it says more and counts as full. Else prove '..UptoSaid'. A law counts once. -/
mutual
def uptoBulk {H : Type} : DataW H → Nat
  | .lit (.string bytes) => bytes.length + 1
  | .lit _ => 1
  | .nil => 1
  | .ptr d => uptoBulk d + 1
  | .slice elems spare => uptoBulkAll elems + uptoBulkAll spare + 1
  | .agg parts => uptoBulkAll parts + 1
  | .iface _ d => uptoBulk d + 1
  | .map entries => uptoBulkEntries entries + 1
  | .held _ => 1
def uptoBulkAll {H : Type} : List (DataW H) → Nat
  | [] => 0
  | d :: r => uptoBulk d + uptoBulkAll r
def uptoBulkEntries {H : Type} : List (Lit × DataW H) → Nat
  | [] => 0
  | x :: r => uptoBulkEntry x + uptoBulkEntries r
def uptoBulkEntry {H : Type} : Lit × DataW H → Nat
  | (.string bytes, d) => bytes.length + uptoBulk d + 1
  | (_, d) => uptoBulk d + 1
 end
def uptoSmall : (H : Type) → List (DataW H) → Bool := fun _ ds => decide (uptoBulkAll ds ≤ 1048576)
def OpenSpec.upto (s : _root_.Go.ChangeSpec) : _root_.Go.OpenSpec := { _root_.Go.OpenSpec.ofChange s with cond := some uptoSmall }

/-- 'laws.FnExactIsComplete', WHERE WHAT IT READS IS OF BULK AT MOST 1048576: true; the input reads as it did. -/
def fnExactIsCompleteUptoRow : OpenClaim := { program := "ytimpgbifnijkkaa", sum := "f858aaa57ecb79e48bb5eec5e63a1422f81ba6b1708148e38c71c26e113ec1f0", func := "loop.example/g01163/laws.FnExactIsComplete", spec := "fnExactIsComplete", inPlace := ["maps.clone"], unfollowed := true, recurses := true, apart := false, narrowed := true }
def FnExactIsCompleteUptoSaid : Prop := fnExactIsCompleteUptoRow.holds Try.pinned (OpenSpec.upto fnExactIsCompleteSpec)

/-- 'laws.FnExactPlusX', WHERE WHAT IT READS IS OF BULK AT MOST 1048576: true; the input reads as it did. -/
def fnExactPlusXUptoRow : OpenClaim := { program := "ytimpgbifnijkkaa", sum := "f858aaa57ecb79e48bb5eec5e63a1422f81ba6b1708148e38c71c26e113ec1f0", func := "loop.example/g01163/laws.FnExactPlusX", spec := "fnExactPlusX", unfollowed := true, recurses := true, apart := false, narrowed := true }
def FnExactPlusXUptoSaid : Prop := fnExactPlusXUptoRow.holds Try.pinned (OpenSpec.upto fnExactPlusXSpec)

/-- 'laws.FnExactInverseComplete', WHERE WHAT IT READS IS OF BULK AT MOST 1048576: true; the input reads as it did. -/
def fnExactInverseCompleteUptoRow : OpenClaim := { program := "ytimpgbifnijkkaa", sum := "f858aaa57ecb79e48bb5eec5e63a1422f81ba6b1708148e38c71c26e113ec1f0", func := "loop.example/g01163/laws.FnExactInverseComplete", spec := "fnExactInverseComplete", inPlace := ["maps.clone"], unfollowed := true, recurses := true, apart := false, narrowed := true }
def FnExactInverseCompleteUptoSaid : Prop := fnExactInverseCompleteUptoRow.holds Try.pinned (OpenSpec.upto fnExactInverseCompleteSpec)

/-- 'laws.FnExactNegatedInverse', WHERE WHAT IT READS IS OF BULK AT MOST 1048576: true; the input reads as it did. -/
def fnExactNegatedInverseUptoRow : OpenClaim := { program := "ytimpgbifnijkkaa", sum := "f858aaa57ecb79e48bb5eec5e63a1422f81ba6b1708148e38c71c26e113ec1f0", func := "loop.example/g01163/laws.FnExactNegatedInverse", spec := "fnExactNegatedInverse", inPlace := ["maps.clone"], unfollowed := true, recurses := true, apart := false, narrowed := true }
def FnExactNegatedInverseUptoSaid : Prop := fnExactNegatedInverseUptoRow.holds Try.pinned (OpenSpec.upto fnExactNegatedInverseSpec)

/-- 'laws.FnExactMoveComplete', WHERE WHAT IT READS IS OF BULK AT MOST 1048576: true; the input reads as it did. -/
def fnExactMoveCompleteUptoRow : OpenClaim := { program := "ytimpgbifnijkkaa", sum := "f858aaa57ecb79e48bb5eec5e63a1422f81ba6b1708148e38c71c26e113ec1f0", func := "loop.example/g01163/laws.FnExactMoveComplete", spec := "fnExactMoveComplete", inPlace := ["maps.clone"], unfollowed := true, recurses := true, apart := false, narrowed := true }
def FnExactMoveCompleteUptoSaid : Prop := fnExactMoveCompleteUptoRow.holds Try.pinned (OpenSpec.upto fnExactMoveCompleteSpec)

/-- 'laws.FnExactNormalOf', WHERE WHAT IT READS IS OF BULK AT MOST 1048576: true; the input reads as it did. -/
def fnExactNormalOfUptoRow : OpenClaim := { program := "ytimpgbifnijkkaa", sum := "f858aaa57ecb79e48bb5eec5e63a1422f81ba6b1708148e38c71c26e113ec1f0", func := "loop.example/g01163/laws.FnExactNormalOf", spec := "fnExactNormalOf", unfollowed := true, recurses := true, apart := false, narrowed := true }
def FnExactNormalOfUptoSaid : Prop := fnExactNormalOfUptoRow.holds Try.pinned (OpenSpec.upto fnExactNormalOfSpec)

/-- 'laws.FnExactWaysComplete', WHERE WHAT IT READS IS OF BULK AT MOST 1048576: true; the input reads as it did. -/
def fnExactWaysCompleteUptoRow : OpenClaim := { program := "ytimpgbifnijkkaa", sum := "f858aaa57ecb79e48bb5eec5e63a1422f81ba6b1708148e38c71c26e113ec1f0", func := "loop.example/g01163/laws.FnExactWaysComplete", spec := "fnExactWaysComplete", apart := false, narrowed := true }
def FnExactWaysCompleteUptoSaid : Prop := fnExactWaysCompleteUptoRow.holds Try.pinned (OpenSpec.upto fnExactWaysCompleteSpec)

/-- 'laws.FnExactCountWaysComplete', WHERE WHAT IT READS IS OF BULK AT MOST 1048576: true; the input reads as it did. -/
def fnExactCountWaysCompleteUptoRow : OpenClaim := { program := "ytimpgbifnijkkaa", sum := "f858aaa57ecb79e48bb5eec5e63a1422f81ba6b1708148e38c71c26e113ec1f0", func := "loop.example/g01163/laws.FnExactCountWaysComplete", spec := "fnExactCountWaysComplete", apart := false, narrowed := true }
def FnExactCountWaysCompleteUptoSaid : Prop := fnExactCountWaysCompleteUptoRow.holds Try.pinned (OpenSpec.upto fnExactCountWaysCompleteSpec)

/-- 'laws.FnExactCompleteLinear', WHERE WHAT IT READS IS OF BULK AT MOST 1048576: true; the input reads as it did. -/
def fnExactCompleteLinearUptoRow : OpenClaim := { program := "ytimpgbifnijkkaa", sum := "f858aaa57ecb79e48bb5eec5e63a1422f81ba6b1708148e38c71c26e113ec1f0", func := "loop.example/g01163/laws.FnExactCompleteLinear", spec := "fnExactCompleteLinear", unfollowed := true, recurses := true, apart := false, narrowed := true }
def FnExactCompleteLinearUptoSaid : Prop := fnExactCompleteLinearUptoRow.holds Try.pinned (OpenSpec.upto fnExactCompleteLinearSpec)

/-- 'laws.FnExactSquareOfMap', WHERE WHAT IT READS IS OF BULK AT MOST 1048576: true; the input reads as it did. -/
def fnExactSquareOfMapUptoRow : OpenClaim := { program := "ytimpgbifnijkkaa", sum := "f858aaa57ecb79e48bb5eec5e63a1422f81ba6b1708148e38c71c26e113ec1f0", func := "loop.example/g01163/laws.FnExactSquareOfMap", spec := "fnExactSquareOfMap", inPlace := ["maps.clone"], unfollowed := true, recurses := true, apart := false, narrowed := true }
def FnExactSquareOfMapUptoSaid : Prop := fnExactSquareOfMapUptoRow.holds Try.pinned (OpenSpec.upto fnExactSquareOfMapSpec)

end Rows
end Go.Proofs.Ytimpgbifnijkkaa
