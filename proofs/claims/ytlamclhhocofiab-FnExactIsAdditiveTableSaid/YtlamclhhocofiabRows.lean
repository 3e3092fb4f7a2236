/-
  No cell of these rows narrows 'for every input' (looked for: loops, veiled, ifaces, maps, wideKeys, modest, calm, conditions, laid).
  DERIVED. THE GIVEN ROWS OF THIS SEAT. 8 by the template 'for every input the law returns true; each argument reads behind the call as it read before'; 0 by the template 'total and deterministic' (their statements: YtlamclhhocofiabTotals.lean).
  GIVEN WITH THE SEED: the statements are not yours to turn. If you find one false, say at which input.
  Laid BY PROGRAM, IN A SANDBOX (cutbox-rows.mjs): the forced cells as the released guide's own fill.sh prints them over the translation c0145743b906df41… (all of the seat's roots in one cut). By AI agents, Wed Nov 11 2026. No macro, syntax, notation, axiom, sorry.
-/
import Derived.Test.YtlamclhhocofiabChecked
import GoSem.Claim
import GoSem.ClaimJoined
import GoSem.ClaimMapViews
import Derived.JoinedTies
import Derived.KernelRfl
namespace Go.Proofs.Ytlamclhhocofiab
/- THE CELL 'sum', in the pinned program and in every row, IS THE sha256 OF THE DUMP (.gsa) THAT YtlamclhhocofiabProg.lean LOADS. Nothing in Lean hashes anything: it is a label: what it is worth is what the hold of that sum in a sandbox is worth. -/
noncomputable def Try.pinned : Pinned := { name := "ytlamclhhocofiab", sum := "c0145743b906df41f098077bafb671f6870be594b95f15b6ff74de91c443813a", checked := Try.checked }
namespace Rows
def none {H : Type} : Left H := { results := [], args := [] }

/-- 'laws.FnExactAdditiveInverse': WHATEVER THE INPUT: true; the input reads as it did. -/
def fnExactAdditiveInverseSpec : ChangeSpec := { name := "fnExactAdditiveInverse", fn := fun _ => fun
  | [d1, d2] => { results := [.lit (.bool true)], args := [d1, d2] }
  | _ => none }
def fnExactAdditiveInverseRow : OpenClaim := { program := "ytlamclhhocofiab", sum := "c0145743b906df41f098077bafb671f6870be594b95f15b6ff74de91c443813a", func := "loop.example/g01163/laws.FnExactAdditiveInverse", spec := "fnExactAdditiveInverse", inPlace := ["maps.clone"], unfollowed := true, recurses := true, apart := false }
def FnExactAdditiveInverseSaid : Prop := fnExactAdditiveInverseRow.holds Try.pinned (OpenSpec.ofChange fnExactAdditiveInverseSpec)

/-- ITS FALSE NEIGHBOUR: 'it returns false'. Refute it at one input. -/
def fnExactAdditiveInverseWrong : ChangeSpec := { name := "fnExactAdditiveInverse", fn := fun _ => fun
  | [d1, d2] => { results := [.lit (.bool false)], args := [d1, d2] }
  | _ => none }
def FnExactAdditiveInverseWrongFalsely : Prop := fnExactAdditiveInverseRow.holds Try.pinned (OpenSpec.ofChange fnExactAdditiveInverseWrong)

/-- 'laws.FnExactAdjointOf': WHATEVER THE INPUT: true; the input reads as it did. -/
def fnExactAdjointOfSpec : ChangeSpec := { name := "fnExactAdjointOf", fn := fun _ => fun
  | [d1, d2] => { results := [.lit (.bool true)], args := [d1, d2] }
  | _ => none }
def fnExactAdjointOfRow : OpenClaim := { program := "ytlamclhhocofiab", sum := "c0145743b906df41f098077bafb671f6870be594b95f15b6ff74de91c443813a", func := "loop.example/g01163/laws.FnExactAdjointOf", spec := "fnExactAdjointOf", unfollowed := true, recurses := true, apart := false }
def FnExactAdjointOfSaid : Prop := fnExactAdjointOfRow.holds Try.pinned (OpenSpec.ofChange fnExactAdjointOfSpec)

/-- ITS FALSE NEIGHBOUR: 'it returns false'. Refute it at one input. -/
def fnExactAdjointOfWrong : ChangeSpec := { name := "fnExactAdjointOf", fn := fun _ => fun
  | [d1, d2] => { results := [.lit (.bool false)], args := [d1, d2] }
  | _ => none }
def FnExactAdjointOfWrongFalsely : Prop := fnExactAdjointOfRow.holds Try.pinned (OpenSpec.ofChange fnExactAdjointOfWrong)

/-- 'laws.FnExactIsAdditiveTable': WHATEVER THE INPUT: true; the input reads as it did. -/
def fnExactIsAdditiveTableSpec : ChangeSpec := { name := "fnExactIsAdditiveTable", fn := fun _ => fun
  | [d1, d2] => { results := [.lit (.bool true)], args := [d1, d2] }
  | _ => none }
def fnExactIsAdditiveTableRow : OpenClaim := { program := "ytlamclhhocofiab", sum := "c0145743b906df41f098077bafb671f6870be594b95f15b6ff74de91c443813a", func := "loop.example/g01163/laws.FnExactIsAdditiveTable", spec := "fnExactIsAdditiveTable", unfollowed := true, recurses := true, apart := false }
def FnExactIsAdditiveTableSaid : Prop := fnExactIsAdditiveTableRow.holds Try.pinned (OpenSpec.ofChange fnExactIsAdditiveTableSpec)

/-- ITS FALSE NEIGHBOUR: 'it returns false'. Refute it at one input. -/
def fnExactIsAdditiveTableWrong : ChangeSpec := { name := "fnExactIsAdditiveTable", fn := fun _ => fun
  | [d1, d2] => { results := [.lit (.bool false)], args := [d1, d2] }
  | _ => none }
def FnExactIsAdditiveTableWrongFalsely : Prop := fnExactIsAdditiveTableRow.holds Try.pinned (OpenSpec.ofChange fnExactIsAdditiveTableWrong)

/-- 'laws.FnExactTracePair': WHATEVER THE INPUT: true; the input reads as it did. -/
def fnExactTracePairSpec : ChangeSpec := { name := "fnExactTracePair", fn := fun _ => fun
  | [d1, d2, d3] => { results := [.lit (.bool true)], args := [d1, d2, d3] }
  | _ => none }
def fnExactTracePairRow : OpenClaim := { program := "ytlamclhhocofiab", sum := "c0145743b906df41f098077bafb671f6870be594b95f15b6ff74de91c443813a", func := "loop.example/g01163/laws.FnExactTracePair", spec := "fnExactTracePair", apart := false }
def FnExactTracePairSaid : Prop := fnExactTracePairRow.holds Try.pinned (OpenSpec.ofChange fnExactTracePairSpec)

/-- ITS FALSE NEIGHBOUR: 'it returns false'. Refute it at one input. -/
def fnExactTracePairWrong : ChangeSpec := { name := "fnExactTracePair", fn := fun _ => fun
  | [d1, d2, d3] => { results := [.lit (.bool false)], args := [d1, d2, d3] }
  | _ => none }
def FnExactTracePairWrongFalsely : Prop := fnExactTracePairRow.holds Try.pinned (OpenSpec.ofChange fnExactTracePairWrong)

/-- 'laws.FnExactCountAdditive': WHATEVER THE INPUT: true; the input reads as it did. -/
def fnExactCountAdditiveSpec : ChangeSpec := { name := "fnExactCountAdditive", fn := fun _ => fun
  | [d] => { results := [.lit (.bool true)], args := [d] }
  | _ => none }
def fnExactCountAdditiveRow : OpenClaim := { program := "ytlamclhhocofiab", sum := "c0145743b906df41f098077bafb671f6870be594b95f15b6ff74de91c443813a", func := "loop.example/g01163/laws.FnExactCountAdditive", spec := "fnExactCountAdditive", apart := false }
def FnExactCountAdditiveSaid : Prop := fnExactCountAdditiveRow.holds Try.pinned (OpenSpec.ofChange fnExactCountAdditiveSpec)

/-- ITS FALSE NEIGHBOUR: 'it returns false'. Refute it at one input. -/
def fnExactCountAdditiveWrong : ChangeSpec := { name := "fnExactCountAdditive", fn := fun _ => fun
  | [d] => { results := [.lit (.bool false)], args := [d] }
  | _ => none }
def FnExactCountAdditiveWrongFalsely : Prop := fnExactCountAdditiveRow.holds Try.pinned (OpenSpec.ofChange fnExactCountAdditiveWrong)

/-- 'laws.FnExactCountAdditivePermuting': WHATEVER THE INPUT: true; the input reads as it did. -/
def fnExactCountAdditivePermutingSpec : ChangeSpec := { name := "fnExactCountAdditivePermuting", fn := fun _ => fun
  | [d] => { results := [.lit (.bool true)], args := [d] }
  | _ => none }
def fnExactCountAdditivePermutingRow : OpenClaim := { program := "ytlamclhhocofiab", sum := "c0145743b906df41f098077bafb671f6870be594b95f15b6ff74de91c443813a", func := "loop.example/g01163/laws.FnExactCountAdditivePermuting", spec := "fnExactCountAdditivePermuting", apart := false }
def FnExactCountAdditivePermutingSaid : Prop := fnExactCountAdditivePermutingRow.holds Try.pinned (OpenSpec.ofChange fnExactCountAdditivePermutingSpec)

/-- ITS FALSE NEIGHBOUR: 'it returns false'. Refute it at one input. -/
def fnExactCountAdditivePermutingWrong : ChangeSpec := { name := "fnExactCountAdditivePermuting", fn := fun _ => fun
  | [d] => { results := [.lit (.bool false)], args := [d] }
  | _ => none }
def FnExactCountAdditivePermutingWrongFalsely : Prop := fnExactCountAdditivePermutingRow.holds Try.pinned (OpenSpec.ofChange fnExactCountAdditivePermutingWrong)

/-- 'laws.FnExactDigitsOf': WHATEVER THE INPUT: true; the input reads as it did. -/
def fnExactDigitsOfSpec : ChangeSpec := { name := "fnExactDigitsOf", fn := fun _ => fun
  | [d1, d2] => { results := [.lit (.bool true)], args := [d1, d2] }
  | _ => none }
def fnExactDigitsOfRow : OpenClaim := { program := "ytlamclhhocofiab", sum := "c0145743b906df41f098077bafb671f6870be594b95f15b6ff74de91c443813a", func := "loop.example/g01163/laws.FnExactDigitsOf", spec := "fnExactDigitsOf", apart := false }
def FnExactDigitsOfSaid : Prop := fnExactDigitsOfRow.holds Try.pinned (OpenSpec.ofChange fnExactDigitsOfSpec)

/-- ITS FALSE NEIGHBOUR: 'it returns false'. Refute it at one input. -/
def fnExactDigitsOfWrong : ChangeSpec := { name := "fnExactDigitsOf", fn := fun _ => fun
  | [d1, d2] => { results := [.lit (.bool false)], args := [d1, d2] }
  | _ => none }
def FnExactDigitsOfWrongFalsely : Prop := fnExactDigitsOfRow.holds Try.pinned (OpenSpec.ofChange fnExactDigitsOfWrong)

/-- 'laws.FnExactTraceOf': WHATEVER THE INPUT: true; the input reads as it did. -/
def fnExactTraceOfSpec : ChangeSpec := { name := "fnExactTraceOf", fn := fun _ => fun
  | [d1, d2] => { results := [.lit (.bool true)], args := [d1, d2] }
  | _ => none }
def fnExactTraceOfRow : OpenClaim := { program := "ytlamclhhocofiab", sum := "c0145743b906df41f098077bafb671f6870be594b95f15b6ff74de91c443813a", func := "loop.example/g01163/laws.FnExactTraceOf", spec := "fnExactTraceOf", apart := false }
def FnExactTraceOfSaid : Prop := fnExactTraceOfRow.holds Try.pinned (OpenSpec.ofChange fnExactTraceOfSpec)

/-- ITS FALSE NEIGHBOUR: 'it returns false'. Refute it at one input. -/
def fnExactTraceOfWrong : ChangeSpec := { name := "fnExactTraceOf", fn := fun _ => fun
  | [d1, d2] => { results := [.lit (.bool false)], args := [d1, d2] }
  | _ => none }
def FnExactTraceOfWrongFalsely : Prop := fnExactTraceOfRow.holds Try.pinned (OpenSpec.ofChange fnExactTraceOfWrong)

/- THE SECOND FORM. 'bulk': how many values and letters a reading holds, each counted each time it is reached (what is shared counts as often as it is met; a slice's spare places count too). A statement '..UptoSaid' is the law's where the arguments, and the package variables that the reading takes, are together of bulk at most 1048576: NARROWER than '..Said'. Prove '..Said' where nothing that the law and all that it calls make is longer than what came in: it says more and counts as full. Else prove '..UptoSaid'. A law counts once. -/
mutual
def uptoBulk {H : Type} : DataW H → Nat
  | .lit (.string bytes) => bytes.length + 1
  | .lit _ => 1
  | .nil => 1
  | .ptr d => uptoBulk d + 1
  | .slice elems spare => uptoBulkAll elems + uptoBulkAll spare + 1
  | .agg parts => uptoBulkAll parts + 1
  | .iface _ d => uptoBulk d + 1
  | .map entries => uptoBulkEntries entries + 1
  | .held _ => 1
def uptoBulkAll {H : Type} : List (DataW H) → Nat
  | [] => 0
  | d :: r => uptoBulk d + uptoBulkAll r
def uptoBulkEntries {H : Type} : List (Lit × DataW H) → Nat
  | [] => 0
  | x :: r => uptoBulkEntry x + uptoBulkEntries r
def uptoBulkEntry {H : Type} : Lit × DataW H → Nat
  | (.string bytes, d) => bytes.length + uptoBulk d + 1
  | (_, d) => uptoBulk d + 1
 end
def uptoSmall : (H : Type) → List (DataW H) → Bool := fun _ ds => decide (uptoBulkAll ds ≤ 1048576)
def OpenSpec.upto (s : _root_.Go.ChangeSpec) : _root_.Go.OpenSpec := { _root_.Go.OpenSpec.ofChange s with cond := some uptoSmall }

/-- 'laws.FnExactAdditiveInverse', WHERE WHAT IT READS IS OF BULK AT MOST 1048576: true; the input reads as it did. -/
def fnExactAdditiveInverseUptoRow : OpenClaim := { program := "ytlamclhhocofiab", sum := "c0145743b906df41f098077bafb671f6870be594b95f15b6ff74de91c443813a", func := "loop.example/g01163/laws.FnExactAdditiveInverse", spec := "fnExactAdditiveInverse", inPlace := ["maps.clone"], unfollowed := true, recurses := true, apart := false, narrowed := true }
def FnExactAdditiveInverseUptoSaid : Prop := fnExactAdditiveInverseUptoRow.holds Try.pinned (OpenSpec.upto fnExactAdditiveInverseSpec)

/-- 'laws.FnExactAdjointOf', WHERE WHAT IT READS IS OF BULK AT MOST 1048576: true; the input reads as it did. -/
def fnExactAdjointOfUptoRow : OpenClaim := { program := "ytlamclhhocofiab", sum := "c0145743b906df41f098077bafb671f6870be594b95f15b6ff74de91c443813a", func := "loop.example/g01163/laws.FnExactAdjointOf", spec := "fnExactAdjointOf", unfollowed := true, recurses := true, apart := false, narrowed := true }
def FnExactAdjointOfUptoSaid : Prop := fnExactAdjointOfUptoRow.holds Try.pinned (OpenSpec.upto fnExactAdjointOfSpec)

/-- 'laws.FnExactIsAdditiveTable', WHERE WHAT IT READS IS OF BULK AT MOST 1048576: true; the input reads as it did. -/
def fnExactIsAdditiveTableUptoRow : OpenClaim := { program := "ytlamclhhocofiab", sum := "c0145743b906df41f098077bafb671f6870be594b95f15b6ff74de91c443813a", func := "loop.example/g01163/laws.FnExactIsAdditiveTable", spec := "fnExactIsAdditiveTable", unfollowed := true, recurses := true, apart := false, narrowed := true }
def FnExactIsAdditiveTableUptoSaid : Prop := fnExactIsAdditiveTableUptoRow.holds Try.pinned (OpenSpec.upto fnExactIsAdditiveTableSpec)

/-- 'laws.FnExactTracePair', WHERE WHAT IT READS IS OF BULK AT MOST 1048576: true; the input reads as it did. -/
def fnExactTracePairUptoRow : OpenClaim := { program := "ytlamclhhocofiab", sum := "c0145743b906df41f098077bafb671f6870be594b95f15b6ff74de91c443813a", func := "loop.example/g01163/laws.FnExactTracePair", spec := "fnExactTracePair", apart := false, narrowed := true }
def FnExactTracePairUptoSaid : Prop := fnExactTracePairUptoRow.holds Try.pinned (OpenSpec.upto fnExactTracePairSpec)

/-- 'laws.FnExactCountAdditive', WHERE WHAT IT READS IS OF BULK AT MOST 1048576: true; the input reads as it did. -/
def fnExactCountAdditiveUptoRow : OpenClaim := { program := "ytlamclhhocofiab", sum := "c0145743b906df41f098077bafb671f6870be594b95f15b6ff74de91c443813a", func := "loop.example/g01163/laws.FnExactCountAdditive", spec := "fnExactCountAdditive", apart := false, narrowed := true }
def FnExactCountAdditiveUptoSaid : Prop := fnExactCountAdditiveUptoRow.holds Try.pinned (OpenSpec.upto fnExactCountAdditiveSpec)

/-- 'laws.FnExactCountAdditivePermuting', WHERE WHAT IT READS IS OF BULK AT MOST 1048576: true; the input reads as it did. -/
def fnExactCountAdditivePermutingUptoRow : OpenClaim := { program := "ytlamclhhocofiab", sum := "c0145743b906df41f098077bafb671f6870be594b95f15b6ff74de91c443813a", func := "loop.example/g01163/laws.FnExactCountAdditivePermuting", spec := "fnExactCountAdditivePermuting", apart := false, narrowed := true }
def FnExactCountAdditivePermutingUptoSaid : Prop := fnExactCountAdditivePermutingUptoRow.holds Try.pinned (OpenSpec.upto fnExactCountAdditivePermutingSpec)

/-- 'laws.FnExactDigitsOf', WHERE WHAT IT READS IS OF BULK AT MOST 1048576: true; the input reads as it did. -/
def fnExactDigitsOfUptoRow : OpenClaim := { program := "ytlamclhhocofiab", sum := "c0145743b906df41f098077bafb671f6870be594b95f15b6ff74de91c443813a", func := "loop.example/g01163/laws.FnExactDigitsOf", spec := "fnExactDigitsOf", apart := false, narrowed := true }
def FnExactDigitsOfUptoSaid : Prop := fnExactDigitsOfUptoRow.holds Try.pinned (OpenSpec.upto fnExactDigitsOfSpec)

/-- 'laws.FnExactTraceOf', WHERE WHAT IT READS IS OF BULK AT MOST 1048576: true; the input reads as it did. -/
def fnExactTraceOfUptoRow : OpenClaim := { program := "ytlamclhhocofiab", sum := "c0145743b906df41f098077bafb671f6870be594b95f15b6ff74de91c443813a", func := "loop.example/g01163/laws.FnExactTraceOf", spec := "fnExactTraceOf", apart := false, narrowed := true }
def FnExactTraceOfUptoSaid : Prop := fnExactTraceOfUptoRow.holds Try.pinned (OpenSpec.upto fnExactTraceOfSpec)

end Rows
end Go.Proofs.Ytlamclhhocofiab
