/-
  No cell of these rows narrows 'for every input' (looked for: loops, veiled, ifaces, maps, wideKeys, modest, calm, conditions, laid).
  DERIVED. THE GIVEN ROWS OF THIS SEAT. 10 by the template 'for every input the law returns true; each argument reads behind the call as it read before'; 0 by the template 'total and deterministic' (their statements: YtlhcokblbkiafaaTotals.lean).
  GIVEN WITH THE SEED: the statements are not yours to turn. If you find one false, say at which input.
  Laid BY PROGRAM, IN A SANDBOX (cutbox-rows.mjs): the forced cells as the released guide's own fill.sh prints them over the translation 1cb6be70b15588de… (all of the seat's roots in one cut). By AI agents, Wed Nov 11 2026. No macro, syntax, notation, axiom, sorry.
-/
import Derived.Test.YtlhcokblbkiafaaChecked
import GoSem.Claim
import GoSem.ClaimJoined
import GoSem.ClaimMapViews
import Derived.JoinedTies
import Derived.KernelRfl
namespace Go.Proofs.Ytlhcokblbkiafaa
/- THE CELL 'sum', in the pinned program and in every row, IS THE sha256 OF THE DUMP (.gsa) THAT YtlhcokblbkiafaaProg.lean LOADS. Nothing in Lean hashes anything: it is a label: what it is worth is what the hold of that sum in a sandbox is worth. -/
noncomputable def Try.pinned : Pinned := { name := "ytlhcokblbkiafaa", sum := "1cb6be70b15588de10a14ba2748f571ff7e2ee8001fcc3052f348631aa0fdba2", checked := Try.checked }
namespace Rows
def none {H : Type} : Left H := { results := [], args := [] }

/-- 'laws.FnExactCharacterOf': WHATEVER THE INPUT: true; the input reads as it did. -/
def fnExactCharacterOfSpec : ChangeSpec := { name := "fnExactCharacterOf", fn := fun _ => fun
  | [d1, d2] => { results := [.lit (.bool true)], args := [d1, d2] }
  | _ => none }
def fnExactCharacterOfRow : OpenClaim := { program := "ytlhcokblbkiafaa", sum := "1cb6be70b15588de10a14ba2748f571ff7e2ee8001fcc3052f348631aa0fdba2", func := "loop.example/g01163/laws.FnExactCharacterOf", spec := "fnExactCharacterOf", apart := false }
def FnExactCharacterOfSaid : Prop := fnExactCharacterOfRow.holds Try.pinned (OpenSpec.ofChange fnExactCharacterOfSpec)

/-- ITS FALSE NEIGHBOUR: 'it returns false'. Refute it at one input. -/
def fnExactCharacterOfWrong : ChangeSpec := { name := "fnExactCharacterOf", fn := fun _ => fun
  | [d1, d2] => { results := [.lit (.bool false)], args := [d1, d2] }
  | _ => none }
def FnExactCharacterOfWrongFalsely : Prop := fnExactCharacterOfRow.holds Try.pinned (OpenSpec.ofChange fnExactCharacterOfWrong)

/-- 'laws.FnExactCharacterSum': WHATEVER THE INPUT: true; the input reads as it did. -/
def fnExactCharacterSumSpec : ChangeSpec := { name := "fnExactCharacterSum", fn := fun _ => fun
  | [d1, d2] => { results := [.lit (.bool true)], args := [d1, d2] }
  | _ => none }
def fnExactCharacterSumRow : OpenClaim := { program := "ytlhcokblbkiafaa", sum := "1cb6be70b15588de10a14ba2748f571ff7e2ee8001fcc3052f348631aa0fdba2", func := "loop.example/g01163/laws.FnExactCharacterSum", spec := "fnExactCharacterSum", unfollowed := true, recurses := true, apart := false }
def FnExactCharacterSumSaid : Prop := fnExactCharacterSumRow.holds Try.pinned (OpenSpec.ofChange fnExactCharacterSumSpec)

/-- ITS FALSE NEIGHBOUR: 'it returns false'. Refute it at one input. -/
def fnExactCharacterSumWrong : ChangeSpec := { name := "fnExactCharacterSum", fn := fun _ => fun
  | [d1, d2] => { results := [.lit (.bool false)], args := [d1, d2] }
  | _ => none }
def FnExactCharacterSumWrongFalsely : Prop := fnExactCharacterSumRow.holds Try.pinned (OpenSpec.ofChange fnExactCharacterSumWrong)

/-- 'laws.FnExactCountPoints': WHATEVER THE INPUT: true; the input reads as it did. -/
def fnExactCountPointsSpec : ChangeSpec := { name := "fnExactCountPoints", fn := fun _ => fun
  | [d1, d2] => { results := [.lit (.bool true)], args := [d1, d2] }
  | _ => none }
def fnExactCountPointsRow : OpenClaim := { program := "ytlhcokblbkiafaa", sum := "1cb6be70b15588de10a14ba2748f571ff7e2ee8001fcc3052f348631aa0fdba2", func := "loop.example/g01163/laws.FnExactCountPoints", spec := "fnExactCountPoints", unfollowed := true, recurses := true, apart := false }
def FnExactCountPointsSaid : Prop := fnExactCountPointsRow.holds Try.pinned (OpenSpec.ofChange fnExactCountPointsSpec)

/-- ITS FALSE NEIGHBOUR: 'it returns false'. Refute it at one input. -/
def fnExactCountPointsWrong : ChangeSpec := { name := "fnExactCountPoints", fn := fun _ => fun
  | [d1, d2] => { results := [.lit (.bool false)], args := [d1, d2] }
  | _ => none }
def FnExactCountPointsWrongFalsely : Prop := fnExactCountPointsRow.holds Try.pinned (OpenSpec.ofChange fnExactCountPointsWrong)

/-- 'laws.FnExactPointsOf': WHATEVER THE INPUT: true; the input reads as it did. -/
def fnExactPointsOfSpec : ChangeSpec := { name := "fnExactPointsOf", fn := fun _ => fun
  | [d1, d2] => { results := [.lit (.bool true)], args := [d1, d2] }
  | _ => none }
def fnExactPointsOfRow : OpenClaim := { program := "ytlhcokblbkiafaa", sum := "1cb6be70b15588de10a14ba2748f571ff7e2ee8001fcc3052f348631aa0fdba2", func := "loop.example/g01163/laws.FnExactPointsOf", spec := "fnExactPointsOf", unfollowed := true, recurses := true, apart := false }
def FnExactPointsOfSaid : Prop := fnExactPointsOfRow.holds Try.pinned (OpenSpec.ofChange fnExactPointsOfSpec)

/-- ITS FALSE NEIGHBOUR: 'it returns false'. Refute it at one input. -/
def fnExactPointsOfWrong : ChangeSpec := { name := "fnExactPointsOf", fn := fun _ => fun
  | [d1, d2] => { results := [.lit (.bool false)], args := [d1, d2] }
  | _ => none }
def FnExactPointsOfWrongFalsely : Prop := fnExactPointsOfRow.holds Try.pinned (OpenSpec.ofChange fnExactPointsOfWrong)

/-- 'laws.FnExactTwistPoints': WHATEVER THE INPUT: true; the input reads as it did. -/
def fnExactTwistPointsSpec : ChangeSpec := { name := "fnExactTwistPoints", fn := fun _ => fun
  | [d1, d2] => { results := [.lit (.bool true)], args := [d1, d2] }
  | _ => none }
def fnExactTwistPointsRow : OpenClaim := { program := "ytlhcokblbkiafaa", sum := "1cb6be70b15588de10a14ba2748f571ff7e2ee8001fcc3052f348631aa0fdba2", func := "loop.example/g01163/laws.FnExactTwistPoints", spec := "fnExactTwistPoints", unfollowed := true, recurses := true, apart := false }
def FnExactTwistPointsSaid : Prop := fnExactTwistPointsRow.holds Try.pinned (OpenSpec.ofChange fnExactTwistPointsSpec)

/-- ITS FALSE NEIGHBOUR: 'it returns false'. Refute it at one input. -/
def fnExactTwistPointsWrong : ChangeSpec := { name := "fnExactTwistPoints", fn := fun _ => fun
  | [d1, d2] => { results := [.lit (.bool false)], args := [d1, d2] }
  | _ => none }
def FnExactTwistPointsWrongFalsely : Prop := fnExactTwistPointsRow.holds Try.pinned (OpenSpec.ofChange fnExactTwistPointsWrong)

/-- 'laws.FnExactQuadraticSum': WHATEVER THE INPUT: true; the input reads as it did. -/
def fnExactQuadraticSumSpec : ChangeSpec := { name := "fnExactQuadraticSum", fn := fun _ => fun
  | [d1, d2, d3, d4] => { results := [.lit (.bool true)], args := [d1, d2, d3, d4] }
  | _ => none }
def fnExactQuadraticSumRow : OpenClaim := { program := "ytlhcokblbkiafaa", sum := "1cb6be70b15588de10a14ba2748f571ff7e2ee8001fcc3052f348631aa0fdba2", func := "loop.example/g01163/laws.FnExactQuadraticSum", spec := "fnExactQuadraticSum", unfollowed := true, recurses := true, apart := false }
def FnExactQuadraticSumSaid : Prop := fnExactQuadraticSumRow.holds Try.pinned (OpenSpec.ofChange fnExactQuadraticSumSpec)

/-- ITS FALSE NEIGHBOUR: 'it returns false'. Refute it at one input. -/
def fnExactQuadraticSumWrong : ChangeSpec := { name := "fnExactQuadraticSum", fn := fun _ => fun
  | [d1, d2, d3, d4] => { results := [.lit (.bool false)], args := [d1, d2, d3, d4] }
  | _ => none }
def FnExactQuadraticSumWrongFalsely : Prop := fnExactQuadraticSumRow.holds Try.pinned (OpenSpec.ofChange fnExactQuadraticSumWrong)

/-- 'laws.FnExactCountSquareSums': WHATEVER THE INPUT: true; the input reads as it did. -/
def fnExactCountSquareSumsSpec : ChangeSpec := { name := "fnExactCountSquareSums", fn := fun _ => fun
  | [d1, d2] => { results := [.lit (.bool true)], args := [d1, d2] }
  | _ => none }
def fnExactCountSquareSumsRow : OpenClaim := { program := "ytlhcokblbkiafaa", sum := "1cb6be70b15588de10a14ba2748f571ff7e2ee8001fcc3052f348631aa0fdba2", func := "loop.example/g01163/laws.FnExactCountSquareSums", spec := "fnExactCountSquareSums", unfollowed := true, recurses := true, apart := false }
def FnExactCountSquareSumsSaid : Prop := fnExactCountSquareSumsRow.holds Try.pinned (OpenSpec.ofChange fnExactCountSquareSumsSpec)

/-- ITS FALSE NEIGHBOUR: 'it returns false'. Refute it at one input. -/
def fnExactCountSquareSumsWrong : ChangeSpec := { name := "fnExactCountSquareSums", fn := fun _ => fun
  | [d1, d2] => { results := [.lit (.bool false)], args := [d1, d2] }
  | _ => none }
def FnExactCountSquareSumsWrongFalsely : Prop := fnExactCountSquareSumsRow.holds Try.pinned (OpenSpec.ofChange fnExactCountSquareSumsWrong)

/-- 'laws.FnExactCountRuns': WHATEVER THE INPUT: true; the input reads as it did. -/
def fnExactCountRunsSpec : ChangeSpec := { name := "fnExactCountRuns", fn := fun _ => fun
  | [d1, d2, d3] => { results := [.lit (.bool true)], args := [d1, d2, d3] }
  | _ => none }
def fnExactCountRunsRow : OpenClaim := { program := "ytlhcokblbkiafaa", sum := "1cb6be70b15588de10a14ba2748f571ff7e2ee8001fcc3052f348631aa0fdba2", func := "loop.example/g01163/laws.FnExactCountRuns", spec := "fnExactCountRuns", unfollowed := true, recurses := true, apart := false }
def FnExactCountRunsSaid : Prop := fnExactCountRunsRow.holds Try.pinned (OpenSpec.ofChange fnExactCountRunsSpec)

/-- ITS FALSE NEIGHBOUR: 'it returns false'. Refute it at one input. -/
def fnExactCountRunsWrong : ChangeSpec := { name := "fnExactCountRuns", fn := fun _ => fun
  | [d1, d2, d3] => { results := [.lit (.bool false)], args := [d1, d2, d3] }
  | _ => none }
def FnExactCountRunsWrongFalsely : Prop := fnExactCountRunsRow.holds Try.pinned (OpenSpec.ofChange fnExactCountRunsWrong)

/-- 'laws.FnExactShiftedSum': WHATEVER THE INPUT: true; the input reads as it did. -/
def fnExactShiftedSumSpec : ChangeSpec := { name := "fnExactShiftedSum", fn := fun _ => fun
  | [d1, d2] => { results := [.lit (.bool true)], args := [d1, d2] }
  | _ => none }
def fnExactShiftedSumRow : OpenClaim := { program := "ytlhcokblbkiafaa", sum := "1cb6be70b15588de10a14ba2748f571ff7e2ee8001fcc3052f348631aa0fdba2", func := "loop.example/g01163/laws.FnExactShiftedSum", spec := "fnExactShiftedSum", unfollowed := true, recurses := true, apart := false }
def FnExactShiftedSumSaid : Prop := fnExactShiftedSumRow.holds Try.pinned (OpenSpec.ofChange fnExactShiftedSumSpec)

/-- ITS FALSE NEIGHBOUR: 'it returns false'. Refute it at one input. -/
def fnExactShiftedSumWrong : ChangeSpec := { name := "fnExactShiftedSum", fn := fun _ => fun
  | [d1, d2] => { results := [.lit (.bool false)], args := [d1, d2] }
  | _ => none }
def FnExactShiftedSumWrongFalsely : Prop := fnExactShiftedSumRow.holds Try.pinned (OpenSpec.ofChange fnExactShiftedSumWrong)

/-- 'laws.FnExactNormalOf': WHATEVER THE INPUT: true; the input reads as it did. -/
def fnExactNormalOfSpec : ChangeSpec := { name := "fnExactNormalOf", fn := fun _ => fun
  | [d1, d2] => { results := [.lit (.bool true)], args := [d1, d2] }
  | _ => none }
def fnExactNormalOfRow : OpenClaim := { program := "ytlhcokblbkiafaa", sum := "1cb6be70b15588de10a14ba2748f571ff7e2ee8001fcc3052f348631aa0fdba2", func := "loop.example/g01163/laws.FnExactNormalOf", spec := "fnExactNormalOf", unfollowed := true, recurses := true, apart := false }
def FnExactNormalOfSaid : Prop := fnExactNormalOfRow.holds Try.pinned (OpenSpec.ofChange fnExactNormalOfSpec)

/-- ITS FALSE NEIGHBOUR: 'it returns false'. Refute it at one input. -/
def fnExactNormalOfWrong : ChangeSpec := { name := "fnExactNormalOf", fn := fun _ => fun
  | [d1, d2] => { results := [.lit (.bool false)], args := [d1, d2] }
  | _ => none }
def FnExactNormalOfWrongFalsely : Prop := fnExactNormalOfRow.holds Try.pinned (OpenSpec.ofChange fnExactNormalOfWrong)

/- THE SECOND FORM. 'bulk': how many values and letters a reading holds, each counted each time it is reached (what is shared counts as often as it is met; a slice's spare places count too). A statement '..UptoSaid' is the law's where the arguments, and the package variables that the reading takes, are together of bulk at most 1048576: NARROWER than '..Said'. Prove '..Said' where nothing that the law and all that it calls make is longer than what came in: it says more and counts as full. Else prove '..UptoSaid'. A law counts once. -/
mutual
def uptoBulk {H : Type} : DataW H → Nat
  | .lit (.string bytes) => bytes.length + 1
  | .lit _ => 1
  | .nil => 1
  | .ptr d => uptoBulk d + 1
  | .slice elems spare => uptoBulkAll elems + uptoBulkAll spare + 1
  | .agg parts => uptoBulkAll parts + 1
  | .iface _ d => uptoBulk d + 1
  | .map entries => uptoBulkEntries entries + 1
  | .held _ => 1
def uptoBulkAll {H : Type} : List (DataW H) → Nat
  | [] => 0
  | d :: r => uptoBulk d + uptoBulkAll r
def uptoBulkEntries {H : Type} : List (Lit × DataW H) → Nat
  | [] => 0
  | x :: r => uptoBulkEntry x + uptoBulkEntries r
def uptoBulkEntry {H : Type} : Lit × DataW H → Nat
  | (.string bytes, d) => bytes.length + uptoBulk d + 1
  | (_, d) => uptoBulk d + 1
 end
def uptoSmall : (H : Type) → List (DataW H) → Bool := fun _ ds => decide (uptoBulkAll ds ≤ 1048576)
def OpenSpec.upto (s : _root_.Go.ChangeSpec) : _root_.Go.OpenSpec := { _root_.Go.OpenSpec.ofChange s with cond := some uptoSmall }

/-- 'laws.FnExactCharacterOf', WHERE WHAT IT READS IS OF BULK AT MOST 1048576: true; the input reads as it did. -/
def fnExactCharacterOfUptoRow : OpenClaim := { program := "ytlhcokblbkiafaa", sum := "1cb6be70b15588de10a14ba2748f571ff7e2ee8001fcc3052f348631aa0fdba2", func := "loop.example/g01163/laws.FnExactCharacterOf", spec := "fnExactCharacterOf", apart := false, narrowed := true }
def FnExactCharacterOfUptoSaid : Prop := fnExactCharacterOfUptoRow.holds Try.pinned (OpenSpec.upto fnExactCharacterOfSpec)

/-- 'laws.FnExactCharacterSum', WHERE WHAT IT READS IS OF BULK AT MOST 1048576: true; the input reads as it did. -/
def fnExactCharacterSumUptoRow : OpenClaim := { program := "ytlhcokblbkiafaa", sum := "1cb6be70b15588de10a14ba2748f571ff7e2ee8001fcc3052f348631aa0fdba2", func := "loop.example/g01163/laws.FnExactCharacterSum", spec := "fnExactCharacterSum", unfollowed := true, recurses := true, apart := false, narrowed := true }
def FnExactCharacterSumUptoSaid : Prop := fnExactCharacterSumUptoRow.holds Try.pinned (OpenSpec.upto fnExactCharacterSumSpec)

/-- 'laws.FnExactCountPoints', WHERE WHAT IT READS IS OF BULK AT MOST 1048576: true; the input reads as it did. -/
def fnExactCountPointsUptoRow : OpenClaim := { program := "ytlhcokblbkiafaa", sum := "1cb6be70b15588de10a14ba2748f571ff7e2ee8001fcc3052f348631aa0fdba2", func := "loop.example/g01163/laws.FnExactCountPoints", spec := "fnExactCountPoints", unfollowed := true, recurses := true, apart := false, narrowed := true }
def FnExactCountPointsUptoSaid : Prop := fnExactCountPointsUptoRow.holds Try.pinned (OpenSpec.upto fnExactCountPointsSpec)

/-- 'laws.FnExactPointsOf', WHERE WHAT IT READS IS OF BULK AT MOST 1048576: true; the input reads as it did. -/
def fnExactPointsOfUptoRow : OpenClaim := { program := "ytlhcokblbkiafaa", sum := "1cb6be70b15588de10a14ba2748f571ff7e2ee8001fcc3052f348631aa0fdba2", func := "loop.example/g01163/laws.FnExactPointsOf", spec := "fnExactPointsOf", unfollowed := true, recurses := true, apart := false, narrowed := true }
def FnExactPointsOfUptoSaid : Prop := fnExactPointsOfUptoRow.holds Try.pinned (OpenSpec.upto fnExactPointsOfSpec)

/-- 'laws.FnExactTwistPoints', WHERE WHAT IT READS IS OF BULK AT MOST 1048576: true; the input reads as it did. -/
def fnExactTwistPointsUptoRow : OpenClaim := { program := "ytlhcokblbkiafaa", sum := "1cb6be70b15588de10a14ba2748f571ff7e2ee8001fcc3052f348631aa0fdba2", func := "loop.example/g01163/laws.FnExactTwistPoints", spec := "fnExactTwistPoints", unfollowed := true, recurses := true, apart := false, narrowed := true }
def FnExactTwistPointsUptoSaid : Prop := fnExactTwistPointsUptoRow.holds Try.pinned (OpenSpec.upto fnExactTwistPointsSpec)

/-- 'laws.FnExactQuadraticSum', WHERE WHAT IT READS IS OF BULK AT MOST 1048576: true; the input reads as it did. -/
def fnExactQuadraticSumUptoRow : OpenClaim := { program := "ytlhcokblbkiafaa", sum := "1cb6be70b15588de10a14ba2748f571ff7e2ee8001fcc3052f348631aa0fdba2", func := "loop.example/g01163/laws.FnExactQuadraticSum", spec := "fnExactQuadraticSum", unfollowed := true, recurses := true, apart := false, narrowed := true }
def FnExactQuadraticSumUptoSaid : Prop := fnExactQuadraticSumUptoRow.holds Try.pinned (OpenSpec.upto fnExactQuadraticSumSpec)

/-- 'laws.FnExactCountSquareSums', WHERE WHAT IT READS IS OF BULK AT MOST 1048576: true; the input reads as it did. -/
def fnExactCountSquareSumsUptoRow : OpenClaim := { program := "ytlhcokblbkiafaa", sum := "1cb6be70b15588de10a14ba2748f571ff7e2ee8001fcc3052f348631aa0fdba2", func := "loop.example/g01163/laws.FnExactCountSquareSums", spec := "fnExactCountSquareSums", unfollowed := true, recurses := true, apart := false, narrowed := true }
def FnExactCountSquareSumsUptoSaid : Prop := fnExactCountSquareSumsUptoRow.holds Try.pinned (OpenSpec.upto fnExactCountSquareSumsSpec)

/-- 'laws.FnExactCountRuns', WHERE WHAT IT READS IS OF BULK AT MOST 1048576: true; the input reads as it did. -/
def fnExactCountRunsUptoRow : OpenClaim := { program := "ytlhcokblbkiafaa", sum := "1cb6be70b15588de10a14ba2748f571ff7e2ee8001fcc3052f348631aa0fdba2", func := "loop.example/g01163/laws.FnExactCountRuns", spec := "fnExactCountRuns", unfollowed := true, recurses := true, apart := false, narrowed := true }
def FnExactCountRunsUptoSaid : Prop := fnExactCountRunsUptoRow.holds Try.pinned (OpenSpec.upto fnExactCountRunsSpec)

/-- 'laws.FnExactShiftedSum', WHERE WHAT IT READS IS OF BULK AT MOST 1048576: true; the input reads as it did. -/
def fnExactShiftedSumUptoRow : OpenClaim := { program := "ytlhcokblbkiafaa", sum := "1cb6be70b15588de10a14ba2748f571ff7e2ee8001fcc3052f348631aa0fdba2", func := "loop.example/g01163/laws.FnExactShiftedSum", spec := "fnExactShiftedSum", unfollowed := true, recurses := true, apart := false, narrowed := true }
def FnExactShiftedSumUptoSaid : Prop := fnExactShiftedSumUptoRow.holds Try.pinned (OpenSpec.upto fnExactShiftedSumSpec)

/-- 'laws.FnExactNormalOf', WHERE WHAT IT READS IS OF BULK AT MOST 1048576: true; the input reads as it did. -/
def fnExactNormalOfUptoRow : OpenClaim := { program := "ytlhcokblbkiafaa", sum := "1cb6be70b15588de10a14ba2748f571ff7e2ee8001fcc3052f348631aa0fdba2", func := "loop.example/g01163/laws.FnExactNormalOf", spec := "fnExactNormalOf", unfollowed := true, recurses := true, apart := false, narrowed := true }
def FnExactNormalOfUptoSaid : Prop := fnExactNormalOfUptoRow.holds Try.pinned (OpenSpec.upto fnExactNormalOfSpec)

end Rows
end Go.Proofs.Ytlhcokblbkiafaa
