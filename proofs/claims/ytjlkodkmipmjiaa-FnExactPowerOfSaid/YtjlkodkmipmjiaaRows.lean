/-
  No cell of these rows narrows 'for every input' (looked for: loops, veiled, ifaces, maps, wideKeys, modest, calm, conditions, laid).
  DERIVED. THE GIVEN ROWS OF THIS SEAT. 10 by the template 'for every input the law returns true; each argument reads behind the call as it read before'; 0 by the template 'total and deterministic' (their statements: YtjlkodkmipmjiaaTotals.lean).
  GIVEN WITH THE SEED: the statements are not yours to turn. If you find one false, say at which input.
  Laid BY PROGRAM, IN A SANDBOX (cutbox-rows.mjs): the forced cells as the released guide's own fill.sh prints them over the translation f42a28587895df3c… (all of the seat's roots in one cut). By AI agents, Wed Nov 11 2026. No macro, syntax, notation, axiom, sorry.
-/
import Derived.Test.YtjlkodkmipmjiaaChecked
import GoSem.Claim
import GoSem.ClaimJoined
import GoSem.ClaimMapViews
import Derived.JoinedTies
import Derived.KernelRfl
namespace Go.Proofs.Ytjlkodkmipmjiaa
/- THE CELL 'sum', in the pinned program and in every row, IS THE sha256 OF THE DUMP (.gsa) THAT YtjlkodkmipmjiaaProg.lean LOADS. Nothing in Lean hashes anything: it is a label: what it is worth is what the hold of that sum in a sandbox is worth. -/
noncomputable def Try.pinned : Pinned := { name := "ytjlkodkmipmjiaa", sum := "f42a28587895df3cb11bc5e613894cabd54adf13d394c9867a4dad11ab7bbecd", checked := Try.checked }
namespace Rows
def none {H : Type} : Left H := { results := [], args := [] }

/-- 'laws.FnExactIsSize': WHATEVER THE INPUT: true; the input reads as it did. -/
def fnExactIsSizeSpec : ChangeSpec := { name := "fnExactIsSize", fn := fun _ => fun
  | [d] => { results := [.lit (.bool true)], args := [d] }
  | _ => none }
def fnExactIsSizeRow : OpenClaim := { program := "ytjlkodkmipmjiaa", sum := "f42a28587895df3cb11bc5e613894cabd54adf13d394c9867a4dad11ab7bbecd", func := "loop.example/g01163/laws.FnExactIsSize", spec := "fnExactIsSize", apart := false }
def FnExactIsSizeSaid : Prop := fnExactIsSizeRow.holds Try.pinned (OpenSpec.ofChange fnExactIsSizeSpec)

/-- ITS FALSE NEIGHBOUR: 'it returns false'. Refute it at one input. -/
def fnExactIsSizeWrong : ChangeSpec := { name := "fnExactIsSize", fn := fun _ => fun
  | [d] => { results := [.lit (.bool false)], args := [d] }
  | _ => none }
def FnExactIsSizeWrongFalsely : Prop := fnExactIsSizeRow.holds Try.pinned (OpenSpec.ofChange fnExactIsSizeWrong)

/-- 'laws.FnExactPrimeOf': WHATEVER THE INPUT: true; the input reads as it did. -/
def fnExactPrimeOfSpec : ChangeSpec := { name := "fnExactPrimeOf", fn := fun _ => fun
  | [d] => { results := [.lit (.bool true)], args := [d] }
  | _ => none }
def fnExactPrimeOfRow : OpenClaim := { program := "ytjlkodkmipmjiaa", sum := "f42a28587895df3cb11bc5e613894cabd54adf13d394c9867a4dad11ab7bbecd", func := "loop.example/g01163/laws.FnExactPrimeOf", spec := "fnExactPrimeOf", apart := false }
def FnExactPrimeOfSaid : Prop := fnExactPrimeOfRow.holds Try.pinned (OpenSpec.ofChange fnExactPrimeOfSpec)

/-- ITS FALSE NEIGHBOUR: 'it returns false'. Refute it at one input. -/
def fnExactPrimeOfWrong : ChangeSpec := { name := "fnExactPrimeOf", fn := fun _ => fun
  | [d] => { results := [.lit (.bool false)], args := [d] }
  | _ => none }
def FnExactPrimeOfWrongFalsely : Prop := fnExactPrimeOfRow.holds Try.pinned (OpenSpec.ofChange fnExactPrimeOfWrong)

/-- 'laws.FnExactModulusOf': WHATEVER THE INPUT: true; the input reads as it did. -/
def fnExactModulusOfSpec : ChangeSpec := { name := "fnExactModulusOf", fn := fun _ => fun
  | [d] => { results := [.lit (.bool true)], args := [d] }
  | _ => none }
def fnExactModulusOfRow : OpenClaim := { program := "ytjlkodkmipmjiaa", sum := "f42a28587895df3cb11bc5e613894cabd54adf13d394c9867a4dad11ab7bbecd", func := "loop.example/g01163/laws.FnExactModulusOf", spec := "fnExactModulusOf", apart := false }
def FnExactModulusOfSaid : Prop := fnExactModulusOfRow.holds Try.pinned (OpenSpec.ofChange fnExactModulusOfSpec)

/-- ITS FALSE NEIGHBOUR: 'it returns false'. Refute it at one input. -/
def fnExactModulusOfWrong : ChangeSpec := { name := "fnExactModulusOf", fn := fun _ => fun
  | [d] => { results := [.lit (.bool false)], args := [d] }
  | _ => none }
def FnExactModulusOfWrongFalsely : Prop := fnExactModulusOfRow.holds Try.pinned (OpenSpec.ofChange fnExactModulusOfWrong)

/-- 'laws.FnExactDigitsOf': WHATEVER THE INPUT: true; the input reads as it did. -/
def fnExactDigitsOfSpec : ChangeSpec := { name := "fnExactDigitsOf", fn := fun _ => fun
  | [d1, d2] => { results := [.lit (.bool true)], args := [d1, d2] }
  | _ => none }
def fnExactDigitsOfRow : OpenClaim := { program := "ytjlkodkmipmjiaa", sum := "f42a28587895df3cb11bc5e613894cabd54adf13d394c9867a4dad11ab7bbecd", func := "loop.example/g01163/laws.FnExactDigitsOf", spec := "fnExactDigitsOf", apart := false }
def FnExactDigitsOfSaid : Prop := fnExactDigitsOfRow.holds Try.pinned (OpenSpec.ofChange fnExactDigitsOfSpec)

/-- ITS FALSE NEIGHBOUR: 'it returns false'. Refute it at one input. -/
def fnExactDigitsOfWrong : ChangeSpec := { name := "fnExactDigitsOf", fn := fun _ => fun
  | [d1, d2] => { results := [.lit (.bool false)], args := [d1, d2] }
  | _ => none }
def FnExactDigitsOfWrongFalsely : Prop := fnExactDigitsOfRow.holds Try.pinned (OpenSpec.ofChange fnExactDigitsOfWrong)

/-- 'laws.FnExactPlusOf': WHATEVER THE INPUT: true; the input reads as it did. -/
def fnExactPlusOfSpec : ChangeSpec := { name := "fnExactPlusOf", fn := fun _ => fun
  | [d1, d2, d3] => { results := [.lit (.bool true)], args := [d1, d2, d3] }
  | _ => none }
def fnExactPlusOfRow : OpenClaim := { program := "ytjlkodkmipmjiaa", sum := "f42a28587895df3cb11bc5e613894cabd54adf13d394c9867a4dad11ab7bbecd", func := "loop.example/g01163/laws.FnExactPlusOf", spec := "fnExactPlusOf", apart := false }
def FnExactPlusOfSaid : Prop := fnExactPlusOfRow.holds Try.pinned (OpenSpec.ofChange fnExactPlusOfSpec)

/-- ITS FALSE NEIGHBOUR: 'it returns false'. Refute it at one input. -/
def fnExactPlusOfWrong : ChangeSpec := { name := "fnExactPlusOf", fn := fun _ => fun
  | [d1, d2, d3] => { results := [.lit (.bool false)], args := [d1, d2, d3] }
  | _ => none }
def FnExactPlusOfWrongFalsely : Prop := fnExactPlusOfRow.holds Try.pinned (OpenSpec.ofChange fnExactPlusOfWrong)

/-- 'laws.FnExactLessOf': WHATEVER THE INPUT: true; the input reads as it did. -/
def fnExactLessOfSpec : ChangeSpec := { name := "fnExactLessOf", fn := fun _ => fun
  | [d1, d2, d3] => { results := [.lit (.bool true)], args := [d1, d2, d3] }
  | _ => none }
def fnExactLessOfRow : OpenClaim := { program := "ytjlkodkmipmjiaa", sum := "f42a28587895df3cb11bc5e613894cabd54adf13d394c9867a4dad11ab7bbecd", func := "loop.example/g01163/laws.FnExactLessOf", spec := "fnExactLessOf", apart := false }
def FnExactLessOfSaid : Prop := fnExactLessOfRow.holds Try.pinned (OpenSpec.ofChange fnExactLessOfSpec)

/-- ITS FALSE NEIGHBOUR: 'it returns false'. Refute it at one input. -/
def fnExactLessOfWrong : ChangeSpec := { name := "fnExactLessOf", fn := fun _ => fun
  | [d1, d2, d3] => { results := [.lit (.bool false)], args := [d1, d2, d3] }
  | _ => none }
def FnExactLessOfWrongFalsely : Prop := fnExactLessOfRow.holds Try.pinned (OpenSpec.ofChange fnExactLessOfWrong)

/-- 'laws.FnExactTimesOf': WHATEVER THE INPUT: true; the input reads as it did. -/
def fnExactTimesOfSpec : ChangeSpec := { name := "fnExactTimesOf", fn := fun _ => fun
  | [d1, d2, d3] => { results := [.lit (.bool true)], args := [d1, d2, d3] }
  | _ => none }
def fnExactTimesOfRow : OpenClaim := { program := "ytjlkodkmipmjiaa", sum := "f42a28587895df3cb11bc5e613894cabd54adf13d394c9867a4dad11ab7bbecd", func := "loop.example/g01163/laws.FnExactTimesOf", spec := "fnExactTimesOf", apart := false }
def FnExactTimesOfSaid : Prop := fnExactTimesOfRow.holds Try.pinned (OpenSpec.ofChange fnExactTimesOfSpec)

/-- ITS FALSE NEIGHBOUR: 'it returns false'. Refute it at one input. -/
def fnExactTimesOfWrong : ChangeSpec := { name := "fnExactTimesOf", fn := fun _ => fun
  | [d1, d2, d3] => { results := [.lit (.bool false)], args := [d1, d2, d3] }
  | _ => none }
def FnExactTimesOfWrongFalsely : Prop := fnExactTimesOfRow.holds Try.pinned (OpenSpec.ofChange fnExactTimesOfWrong)

/-- 'laws.FnExactInverseOf': WHATEVER THE INPUT: true; the input reads as it did. -/
def fnExactInverseOfSpec : ChangeSpec := { name := "fnExactInverseOf", fn := fun _ => fun
  | [d1, d2] => { results := [.lit (.bool true)], args := [d1, d2] }
  | _ => none }
def fnExactInverseOfRow : OpenClaim := { program := "ytjlkodkmipmjiaa", sum := "f42a28587895df3cb11bc5e613894cabd54adf13d394c9867a4dad11ab7bbecd", func := "loop.example/g01163/laws.FnExactInverseOf", spec := "fnExactInverseOf", apart := false }
def FnExactInverseOfSaid : Prop := fnExactInverseOfRow.holds Try.pinned (OpenSpec.ofChange fnExactInverseOfSpec)

/-- ITS FALSE NEIGHBOUR: 'it returns false'. Refute it at one input. -/
def fnExactInverseOfWrong : ChangeSpec := { name := "fnExactInverseOf", fn := fun _ => fun
  | [d1, d2] => { results := [.lit (.bool false)], args := [d1, d2] }
  | _ => none }
def FnExactInverseOfWrongFalsely : Prop := fnExactInverseOfRow.holds Try.pinned (OpenSpec.ofChange fnExactInverseOfWrong)

/-- 'laws.FnExactPowerOf': WHATEVER THE INPUT: true; the input reads as it did. -/
def fnExactPowerOfSpec : ChangeSpec := { name := "fnExactPowerOf", fn := fun _ => fun
  | [d1, d2, d3] => { results := [.lit (.bool true)], args := [d1, d2, d3] }
  | _ => none }
def fnExactPowerOfRow : OpenClaim := { program := "ytjlkodkmipmjiaa", sum := "f42a28587895df3cb11bc5e613894cabd54adf13d394c9867a4dad11ab7bbecd", func := "loop.example/g01163/laws.FnExactPowerOf", spec := "fnExactPowerOf", apart := false }
def FnExactPowerOfSaid : Prop := fnExactPowerOfRow.holds Try.pinned (OpenSpec.ofChange fnExactPowerOfSpec)

/-- ITS FALSE NEIGHBOUR: 'it returns false'. Refute it at one input. -/
def fnExactPowerOfWrong : ChangeSpec := { name := "fnExactPowerOf", fn := fun _ => fun
  | [d1, d2, d3] => { results := [.lit (.bool false)], args := [d1, d2, d3] }
  | _ => none }
def FnExactPowerOfWrongFalsely : Prop := fnExactPowerOfRow.holds Try.pinned (OpenSpec.ofChange fnExactPowerOfWrong)

/-- 'laws.FnExactOrderOf': WHATEVER THE INPUT: true; the input reads as it did. -/
def fnExactOrderOfSpec : ChangeSpec := { name := "fnExactOrderOf", fn := fun _ => fun
  | [d1, d2] => { results := [.lit (.bool true)], args := [d1, d2] }
  | _ => none }
def fnExactOrderOfRow : OpenClaim := { program := "ytjlkodkmipmjiaa", sum := "f42a28587895df3cb11bc5e613894cabd54adf13d394c9867a4dad11ab7bbecd", func := "loop.example/g01163/laws.FnExactOrderOf", spec := "fnExactOrderOf", apart := false }
def FnExactOrderOfSaid : Prop := fnExactOrderOfRow.holds Try.pinned (OpenSpec.ofChange fnExactOrderOfSpec)

/-- ITS FALSE NEIGHBOUR: 'it returns false'. Refute it at one input. -/
def fnExactOrderOfWrong : ChangeSpec := { name := "fnExactOrderOf", fn := fun _ => fun
  | [d1, d2] => { results := [.lit (.bool false)], args := [d1, d2] }
  | _ => none }
def FnExactOrderOfWrongFalsely : Prop := fnExactOrderOfRow.holds Try.pinned (OpenSpec.ofChange fnExactOrderOfWrong)

/- THE SECOND FORM. 'bulk': how many values and letters a reading holds, each counted each time it is reached (what is shared counts as often as it is met; a slice's spare places count too). A statement '..UptoSaid' is the law's where the arguments, and the package variables that the reading takes, are together of bulk at most 1048576: NARROWER than '..Said'. Prove '..Said' where nothing that the law and all that it calls make is longer than what came in: it says more and counts as full. Else prove '..UptoSaid'. A law counts once. -/
mutual
def uptoBulk {H : Type} : DataW H → Nat
  | .lit (.string bytes) => bytes.length + 1
  | .lit _ => 1
  | .nil => 1
  | .ptr d => uptoBulk d + 1
  | .slice elems spare => uptoBulkAll elems + uptoBulkAll spare + 1
  | .agg parts => uptoBulkAll parts + 1
  | .iface _ d => uptoBulk d + 1
  | .map entries => uptoBulkEntries entries + 1
  | .held _ => 1
def uptoBulkAll {H : Type} : List (DataW H) → Nat
  | [] => 0
  | d :: r => uptoBulk d + uptoBulkAll r
def uptoBulkEntries {H : Type} : List (Lit × DataW H) → Nat
  | [] => 0
  | x :: r => uptoBulkEntry x + uptoBulkEntries r
def uptoBulkEntry {H : Type} : Lit × DataW H → Nat
  | (.string bytes, d) => bytes.length + uptoBulk d + 1
  | (_, d) => uptoBulk d + 1
 end
def uptoSmall : (H : Type) → List (DataW H) → Bool := fun _ ds => decide (uptoBulkAll ds ≤ 1048576)
def OpenSpec.upto (s : _root_.Go.ChangeSpec) : _root_.Go.OpenSpec := { _root_.Go.OpenSpec.ofChange s with cond := some uptoSmall }

/-- 'laws.FnExactIsSize', WHERE WHAT IT READS IS OF BULK AT MOST 1048576: true; the input reads as it did. -/
def fnExactIsSizeUptoRow : OpenClaim := { program := "ytjlkodkmipmjiaa", sum := "f42a28587895df3cb11bc5e613894cabd54adf13d394c9867a4dad11ab7bbecd", func := "loop.example/g01163/laws.FnExactIsSize", spec := "fnExactIsSize", apart := false, narrowed := true }
def FnExactIsSizeUptoSaid : Prop := fnExactIsSizeUptoRow.holds Try.pinned (OpenSpec.upto fnExactIsSizeSpec)

/-- 'laws.FnExactPrimeOf', WHERE WHAT IT READS IS OF BULK AT MOST 1048576: true; the input reads as it did. -/
def fnExactPrimeOfUptoRow : OpenClaim := { program := "ytjlkodkmipmjiaa", sum := "f42a28587895df3cb11bc5e613894cabd54adf13d394c9867a4dad11ab7bbecd", func := "loop.example/g01163/laws.FnExactPrimeOf", spec := "fnExactPrimeOf", apart := false, narrowed := true }
def FnExactPrimeOfUptoSaid : Prop := fnExactPrimeOfUptoRow.holds Try.pinned (OpenSpec.upto fnExactPrimeOfSpec)

/-- 'laws.FnExactModulusOf', WHERE WHAT IT READS IS OF BULK AT MOST 1048576: true; the input reads as it did. -/
def fnExactModulusOfUptoRow : OpenClaim := { program := "ytjlkodkmipmjiaa", sum := "f42a28587895df3cb11bc5e613894cabd54adf13d394c9867a4dad11ab7bbecd", func := "loop.example/g01163/laws.FnExactModulusOf", spec := "fnExactModulusOf", apart := false, narrowed := true }
def FnExactModulusOfUptoSaid : Prop := fnExactModulusOfUptoRow.holds Try.pinned (OpenSpec.upto fnExactModulusOfSpec)

/-- 'laws.FnExactDigitsOf', WHERE WHAT IT READS IS OF BULK AT MOST 1048576: true; the input reads as it did. -/
def fnExactDigitsOfUptoRow : OpenClaim := { program := "ytjlkodkmipmjiaa", sum := "f42a28587895df3cb11bc5e613894cabd54adf13d394c9867a4dad11ab7bbecd", func := "loop.example/g01163/laws.FnExactDigitsOf", spec := "fnExactDigitsOf", apart := false, narrowed := true }
def FnExactDigitsOfUptoSaid : Prop := fnExactDigitsOfUptoRow.holds Try.pinned (OpenSpec.upto fnExactDigitsOfSpec)

/-- 'laws.FnExactPlusOf', WHERE WHAT IT READS IS OF BULK AT MOST 1048576: true; the input reads as it did. -/
def fnExactPlusOfUptoRow : OpenClaim := { program := "ytjlkodkmipmjiaa", sum := "f42a28587895df3cb11bc5e613894cabd54adf13d394c9867a4dad11ab7bbecd", func := "loop.example/g01163/laws.FnExactPlusOf", spec := "fnExactPlusOf", apart := false, narrowed := true }
def FnExactPlusOfUptoSaid : Prop := fnExactPlusOfUptoRow.holds Try.pinned (OpenSpec.upto fnExactPlusOfSpec)

/-- 'laws.FnExactLessOf', WHERE WHAT IT READS IS OF BULK AT MOST 1048576: true; the input reads as it did. -/
def fnExactLessOfUptoRow : OpenClaim := { program := "ytjlkodkmipmjiaa", sum := "f42a28587895df3cb11bc5e613894cabd54adf13d394c9867a4dad11ab7bbecd", func := "loop.example/g01163/laws.FnExactLessOf", spec := "fnExactLessOf", apart := false, narrowed := true }
def FnExactLessOfUptoSaid : Prop := fnExactLessOfUptoRow.holds Try.pinned (OpenSpec.upto fnExactLessOfSpec)

/-- 'laws.FnExactTimesOf', WHERE WHAT IT READS IS OF BULK AT MOST 1048576: true; the input reads as it did. -/
def fnExactTimesOfUptoRow : OpenClaim := { program := "ytjlkodkmipmjiaa", sum := "f42a28587895df3cb11bc5e613894cabd54adf13d394c9867a4dad11ab7bbecd", func := "loop.example/g01163/laws.FnExactTimesOf", spec := "fnExactTimesOf", apart := false, narrowed := true }
def FnExactTimesOfUptoSaid : Prop := fnExactTimesOfUptoRow.holds Try.pinned (OpenSpec.upto fnExactTimesOfSpec)

/-- 'laws.FnExactInverseOf', WHERE WHAT IT READS IS OF BULK AT MOST 1048576: true; the input reads as it did. -/
def fnExactInverseOfUptoRow : OpenClaim := { program := "ytjlkodkmipmjiaa", sum := "f42a28587895df3cb11bc5e613894cabd54adf13d394c9867a4dad11ab7bbecd", func := "loop.example/g01163/laws.FnExactInverseOf", spec := "fnExactInverseOf", apart := false, narrowed := true }
def FnExactInverseOfUptoSaid : Prop := fnExactInverseOfUptoRow.holds Try.pinned (OpenSpec.upto fnExactInverseOfSpec)

/-- 'laws.FnExactPowerOf', WHERE WHAT IT READS IS OF BULK AT MOST 1048576: true; the input reads as it did. -/
def fnExactPowerOfUptoRow : OpenClaim := { program := "ytjlkodkmipmjiaa", sum := "f42a28587895df3cb11bc5e613894cabd54adf13d394c9867a4dad11ab7bbecd", func := "loop.example/g01163/laws.FnExactPowerOf", spec := "fnExactPowerOf", apart := false, narrowed := true }
def FnExactPowerOfUptoSaid : Prop := fnExactPowerOfUptoRow.holds Try.pinned (OpenSpec.upto fnExactPowerOfSpec)

/-- 'laws.FnExactOrderOf', WHERE WHAT IT READS IS OF BULK AT MOST 1048576: true; the input reads as it did. -/
def fnExactOrderOfUptoRow : OpenClaim := { program := "ytjlkodkmipmjiaa", sum := "f42a28587895df3cb11bc5e613894cabd54adf13d394c9867a4dad11ab7bbecd", func := "loop.example/g01163/laws.FnExactOrderOf", spec := "fnExactOrderOf", apart := false, narrowed := true }
def FnExactOrderOfUptoSaid : Prop := fnExactOrderOfUptoRow.holds Try.pinned (OpenSpec.upto fnExactOrderOfSpec)

end Rows
end Go.Proofs.Ytjlkodkmipmjiaa
