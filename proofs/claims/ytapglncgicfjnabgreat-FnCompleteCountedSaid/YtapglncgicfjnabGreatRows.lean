/-
  No cell of these rows narrows 'for every input' (looked for: loops, veiled, ifaces, maps, wideKeys, modest, calm, conditions, laid).
  DERIVED. THE GIVEN ROWS OF THIS SEAT. 4 by the template 'for every input the law returns true; each argument reads behind the call as it read before'; 0 by the template 'total and deterministic' (their statements: YtapglncgicfjnabGreatTotals.lean).
  GIVEN WITH THE SEED: the statements are not yours to turn. If you find one false, say at which input.
  Laid BY PROGRAM, IN A SANDBOX (cutbox-rows.mjs): the forced cells as the released guide's own fill.sh prints them over the translation d3f41fb1e7d14bd9… (all of the seat's roots in one cut). By AI agents, Wed Nov 11 2026. No macro, syntax, notation, axiom, sorry.
-/
import Derived.Test.YtapglncgicfjnabGreatChecked
import GoSem.Claim
import GoSem.ClaimJoined
import GoSem.ClaimMapViews
import Derived.JoinedTies
import Derived.KernelRfl
namespace Go.Proofs.YtapglncgicfjnabGreat
/- THE CELL 'sum', in the pinned program and in every row, IS THE sha256 OF THE DUMP (.gsa) THAT YtapglncgicfjnabGreatProg.lean LOADS. Nothing in Lean hashes anything: it is a label: what it is worth is what the hold of that sum in a sandbox is worth. -/
noncomputable def Tryz.pinned : Pinned := { name := "ytapglncgicfjnabgreat", sum := "d3f41fb1e7d14bd91292c626291153148433bb3fc45c92d3c02c15e78ada0883", checked := Tryz.checked }
namespace Rows
def none {H : Type} : Left H := { results := [], args := [] }

/-- 'laws.FnValuesMade': WHATEVER THE INPUT: true; the input reads as it did. -/
def fnValuesMadeSpec : ChangeSpec := { name := "fnValuesMade", fn := fun _ => fun
  | [d1, d2] => { results := [.lit (.bool true)], args := [d1, d2] }
  | _ => none }
def fnValuesMadeRow : OpenClaim := { program := "ytapglncgicfjnabgreat", sum := "d3f41fb1e7d14bd91292c626291153148433bb3fc45c92d3c02c15e78ada0883", func := "loop.example/g01163/laws.FnValuesMade", spec := "fnValuesMade", unfollowed := true, recurses := true, apart := false }
def FnValuesMadeSaid : Prop := fnValuesMadeRow.holds Tryz.pinned (OpenSpec.ofChange fnValuesMadeSpec)

/-- ITS FALSE NEIGHBOUR: 'it returns false'. Refute it at one input. -/
def fnValuesMadeWrong : ChangeSpec := { name := "fnValuesMade", fn := fun _ => fun
  | [d1, d2] => { results := [.lit (.bool false)], args := [d1, d2] }
  | _ => none }
def FnValuesMadeWrongFalsely : Prop := fnValuesMadeRow.holds Tryz.pinned (OpenSpec.ofChange fnValuesMadeWrong)

/-- 'laws.FnPowersPermute': WHATEVER THE INPUT: true; the input reads as it did. -/
def fnPowersPermuteSpec : ChangeSpec := { name := "fnPowersPermute", fn := fun _ => fun
  | [d1, d2] => { results := [.lit (.bool true)], args := [d1, d2] }
  | _ => none }
def fnPowersPermuteRow : OpenClaim := { program := "ytapglncgicfjnabgreat", sum := "d3f41fb1e7d14bd91292c626291153148433bb3fc45c92d3c02c15e78ada0883", func := "loop.example/g01163/laws.FnPowersPermute", spec := "fnPowersPermute", inPlace := ["maps.clone"], unfollowed := true, recurses := true, apart := false }
def FnPowersPermuteSaid : Prop := fnPowersPermuteRow.holds Tryz.pinned (OpenSpec.ofChange fnPowersPermuteSpec)

/-- ITS FALSE NEIGHBOUR: 'it returns false'. Refute it at one input. -/
def fnPowersPermuteWrong : ChangeSpec := { name := "fnPowersPermute", fn := fun _ => fun
  | [d1, d2] => { results := [.lit (.bool false)], args := [d1, d2] }
  | _ => none }
def FnPowersPermuteWrongFalsely : Prop := fnPowersPermuteRow.holds Tryz.pinned (OpenSpec.ofChange fnPowersPermuteWrong)

/-- 'laws.FnFactorsAndBounds': WHATEVER THE INPUT: true; the input reads as it did. -/
def fnFactorsAndBoundsSpec : ChangeSpec := { name := "fnFactorsAndBounds", fn := fun _ => fun
  | [d1, d2] => { results := [.lit (.bool true)], args := [d1, d2] }
  | _ => none }
def fnFactorsAndBoundsRow : OpenClaim := { program := "ytapglncgicfjnabgreat", sum := "d3f41fb1e7d14bd91292c626291153148433bb3fc45c92d3c02c15e78ada0883", func := "loop.example/g01163/laws.FnFactorsAndBounds", spec := "fnFactorsAndBounds", unfollowed := true, recurses := true, apart := false }
def FnFactorsAndBoundsSaid : Prop := fnFactorsAndBoundsRow.holds Tryz.pinned (OpenSpec.ofChange fnFactorsAndBoundsSpec)

/-- ITS FALSE NEIGHBOUR: 'it returns false'. Refute it at one input. -/
def fnFactorsAndBoundsWrong : ChangeSpec := { name := "fnFactorsAndBounds", fn := fun _ => fun
  | [d1, d2] => { results := [.lit (.bool false)], args := [d1, d2] }
  | _ => none }
def FnFactorsAndBoundsWrongFalsely : Prop := fnFactorsAndBoundsRow.holds Tryz.pinned (OpenSpec.ofChange fnFactorsAndBoundsWrong)

/-- 'laws.FnCompleteCounted': WHATEVER THE INPUT: true; the input reads as it did. -/
def fnCompleteCountedSpec : ChangeSpec := { name := "fnCompleteCounted", fn := fun _ => fun
  | [d1, d2] => { results := [.lit (.bool true)], args := [d1, d2] }
  | _ => none }
def fnCompleteCountedRow : OpenClaim := { program := "ytapglncgicfjnabgreat", sum := "d3f41fb1e7d14bd91292c626291153148433bb3fc45c92d3c02c15e78ada0883", func := "loop.example/g01163/laws.FnCompleteCounted", spec := "fnCompleteCounted", inPlace := ["maps.clone"], unfollowed := true, recurses := true, apart := false }
def FnCompleteCountedSaid : Prop := fnCompleteCountedRow.holds Tryz.pinned (OpenSpec.ofChange fnCompleteCountedSpec)

/-- ITS FALSE NEIGHBOUR: 'it returns false'. Refute it at one input. -/
def fnCompleteCountedWrong : ChangeSpec := { name := "fnCompleteCounted", fn := fun _ => fun
  | [d1, d2] => { results := [.lit (.bool false)], args := [d1, d2] }
  | _ => none }
def FnCompleteCountedWrongFalsely : Prop := fnCompleteCountedRow.holds Tryz.pinned (OpenSpec.ofChange fnCompleteCountedWrong)

/- THE SECOND FORM. 'bulk': how many values and letters a reading holds, each counted each time it is reached (what is shared counts as often as it is met; a slice's spare places count too). A statement '..UptoSaid' is the law's where the arguments, and the package variables that the reading takes, are together of bulk at most 1048576: NARROWER than '..Said'. Prove '..Said' where nothing that the law and all that it calls make is longer than what came in: it says more and counts as full. Else prove '..UptoSaid'. A law counts once. -/
mutual
def uptoBulk {H : Type} : DataW H → Nat
  | .lit (.string bytes) => bytes.length + 1
  | .lit _ => 1
  | .nil => 1
  | .ptr d => uptoBulk d + 1
  | .slice elems spare => uptoBulkAll elems + uptoBulkAll spare + 1
  | .agg parts => uptoBulkAll parts + 1
  | .iface _ d => uptoBulk d + 1
  | .map entries => uptoBulkEntries entries + 1
  | .held _ => 1
def uptoBulkAll {H : Type} : List (DataW H) → Nat
  | [] => 0
  | d :: r => uptoBulk d + uptoBulkAll r
def uptoBulkEntries {H : Type} : List (Lit × DataW H) → Nat
  | [] => 0
  | x :: r => uptoBulkEntry x + uptoBulkEntries r
def uptoBulkEntry {H : Type} : Lit × DataW H → Nat
  | (.string bytes, d) => bytes.length + uptoBulk d + 1
  | (_, d) => uptoBulk d + 1
 end
def uptoSmall : (H : Type) → List (DataW H) → Bool := fun _ ds => decide (uptoBulkAll ds ≤ 1048576)
def OpenSpec.upto (s : _root_.Go.ChangeSpec) : _root_.Go.OpenSpec := { _root_.Go.OpenSpec.ofChange s with cond := some uptoSmall }

/-- 'laws.FnValuesMade', WHERE WHAT IT READS IS OF BULK AT MOST 1048576: true; the input reads as it did. -/
def fnValuesMadeUptoRow : OpenClaim := { program := "ytapglncgicfjnabgreat", sum := "d3f41fb1e7d14bd91292c626291153148433bb3fc45c92d3c02c15e78ada0883", func := "loop.example/g01163/laws.FnValuesMade", spec := "fnValuesMade", unfollowed := true, recurses := true, apart := false, narrowed := true }
def FnValuesMadeUptoSaid : Prop := fnValuesMadeUptoRow.holds Tryz.pinned (OpenSpec.upto fnValuesMadeSpec)

/-- 'laws.FnPowersPermute', WHERE WHAT IT READS IS OF BULK AT MOST 1048576: true; the input reads as it did. -/
def fnPowersPermuteUptoRow : OpenClaim := { program := "ytapglncgicfjnabgreat", sum := "d3f41fb1e7d14bd91292c626291153148433bb3fc45c92d3c02c15e78ada0883", func := "loop.example/g01163/laws.FnPowersPermute", spec := "fnPowersPermute", inPlace := ["maps.clone"], unfollowed := true, recurses := true, apart := false, narrowed := true }
def FnPowersPermuteUptoSaid : Prop := fnPowersPermuteUptoRow.holds Tryz.pinned (OpenSpec.upto fnPowersPermuteSpec)

/-- 'laws.FnFactorsAndBounds', WHERE WHAT IT READS IS OF BULK AT MOST 1048576: true; the input reads as it did. -/
def fnFactorsAndBoundsUptoRow : OpenClaim := { program := "ytapglncgicfjnabgreat", sum := "d3f41fb1e7d14bd91292c626291153148433bb3fc45c92d3c02c15e78ada0883", func := "loop.example/g01163/laws.FnFactorsAndBounds", spec := "fnFactorsAndBounds", unfollowed := true, recurses := true, apart := false, narrowed := true }
def FnFactorsAndBoundsUptoSaid : Prop := fnFactorsAndBoundsUptoRow.holds Tryz.pinned (OpenSpec.upto fnFactorsAndBoundsSpec)

/-- 'laws.FnCompleteCounted', WHERE WHAT IT READS IS OF BULK AT MOST 1048576: true; the input reads as it did. -/
def fnCompleteCountedUptoRow : OpenClaim := { program := "ytapglncgicfjnabgreat", sum := "d3f41fb1e7d14bd91292c626291153148433bb3fc45c92d3c02c15e78ada0883", func := "loop.example/g01163/laws.FnCompleteCounted", spec := "fnCompleteCounted", inPlace := ["maps.clone"], unfollowed := true, recurses := true, apart := false, narrowed := true }
def FnCompleteCountedUptoSaid : Prop := fnCompleteCountedUptoRow.holds Tryz.pinned (OpenSpec.upto fnCompleteCountedSpec)

end Rows
end Go.Proofs.YtapglncgicfjnabGreat
