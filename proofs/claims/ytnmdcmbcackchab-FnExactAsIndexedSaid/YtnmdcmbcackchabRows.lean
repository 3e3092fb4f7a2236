/-
  No cell of these rows narrows 'for every input' (looked for: loops, veiled, ifaces, maps, wideKeys, modest, calm, conditions, laid).
  DERIVED. THE GIVEN ROWS OF THIS SEAT. 8 by the template 'for every input the law returns true; each argument reads behind the call as it read before'; 0 by the template 'total and deterministic' (their statements: YtnmdcmbcackchabTotals.lean).
  GIVEN WITH THE SEED: the statements are not yours to turn. If you find one false, say at which input.
  Laid BY PROGRAM, IN A SANDBOX (cutbox-rows.mjs): the forced cells as the released guide's own fill.sh prints them over the translation 16fbc6ab047a834c… (all of the seat's roots in one cut). By AI agents, Wed Nov 11 2026. No macro, syntax, notation, axiom, sorry.
-/
import Derived.Test.YtnmdcmbcackchabChecked
import GoSem.Claim
import GoSem.ClaimJoined
import GoSem.ClaimMapViews
import Derived.JoinedTies
import Derived.KernelRfl
namespace Go.Proofs.Ytnmdcmbcackchab
/- THE CELL 'sum', in the pinned program and in every row, IS THE sha256 OF THE DUMP (.gsa) THAT YtnmdcmbcackchabProg.lean LOADS. Nothing in Lean hashes anything: it is a label: what it is worth is what the hold of that sum in a sandbox is worth. -/
noncomputable def Try.pinned : Pinned := { name := "ytnmdcmbcackchab", sum := "16fbc6ab047a834ca7f36a9be6d6bbc1fc6f494ebd6e9505fc9b94f3bf8a2917", checked := Try.checked }
namespace Rows
def none {H : Type} : Left H := { results := [], args := [] }

/-- 'laws.FnExactAsIndexed': WHATEVER THE INPUT: true; the input reads as it did. -/
def fnExactAsIndexedSpec : ChangeSpec := { name := "fnExactAsIndexed", fn := fun _ => fun
  | [d1, d2] => { results := [.lit (.bool true)], args := [d1, d2] }
  | _ => none }
def fnExactAsIndexedRow : OpenClaim := { program := "ytnmdcmbcackchab", sum := "16fbc6ab047a834ca7f36a9be6d6bbc1fc6f494ebd6e9505fc9b94f3bf8a2917", func := "loop.example/g01163/laws.FnExactAsIndexed", spec := "fnExactAsIndexed", unfollowed := true, recurses := true, apart := false }
def FnExactAsIndexedSaid : Prop := fnExactAsIndexedRow.holds Try.pinned (OpenSpec.ofChange fnExactAsIndexedSpec)

/-- ITS FALSE NEIGHBOUR: 'it returns false'. Refute it at one input. -/
def fnExactAsIndexedWrong : ChangeSpec := { name := "fnExactAsIndexed", fn := fun _ => fun
  | [d1, d2] => { results := [.lit (.bool false)], args := [d1, d2] }
  | _ => none }
def FnExactAsIndexedWrongFalsely : Prop := fnExactAsIndexedRow.holds Try.pinned (OpenSpec.ofChange fnExactAsIndexedWrong)

/-- 'laws.FnExactCountByValues': WHATEVER THE INPUT: true; the input reads as it did. -/
def fnExactCountByValuesSpec : ChangeSpec := { name := "fnExactCountByValues", fn := fun _ => fun
  | [d1, d2] => { results := [.lit (.bool true)], args := [d1, d2] }
  | _ => none }
def fnExactCountByValuesRow : OpenClaim := { program := "ytnmdcmbcackchab", sum := "16fbc6ab047a834ca7f36a9be6d6bbc1fc6f494ebd6e9505fc9b94f3bf8a2917", func := "loop.example/g01163/laws.FnExactCountByValues", spec := "fnExactCountByValues", unfollowed := true, recurses := true, apart := false }
def FnExactCountByValuesSaid : Prop := fnExactCountByValuesRow.holds Try.pinned (OpenSpec.ofChange fnExactCountByValuesSpec)

/-- ITS FALSE NEIGHBOUR: 'it returns false'. Refute it at one input. -/
def fnExactCountByValuesWrong : ChangeSpec := { name := "fnExactCountByValues", fn := fun _ => fun
  | [d1, d2] => { results := [.lit (.bool false)], args := [d1, d2] }
  | _ => none }
def FnExactCountByValuesWrongFalsely : Prop := fnExactCountByValuesRow.holds Try.pinned (OpenSpec.ofChange fnExactCountByValuesWrong)

/-- 'laws.FnExactNormalWith': WHATEVER THE INPUT: true; the input reads as it did. -/
def fnExactNormalWithSpec : ChangeSpec := { name := "fnExactNormalWith", fn := fun _ => fun
  | [d1, d2] => { results := [.lit (.bool true)], args := [d1, d2] }
  | _ => none }
def fnExactNormalWithRow : OpenClaim := { program := "ytnmdcmbcackchab", sum := "16fbc6ab047a834ca7f36a9be6d6bbc1fc6f494ebd6e9505fc9b94f3bf8a2917", func := "loop.example/g01163/laws.FnExactNormalWith", spec := "fnExactNormalWith", inPlace := ["maps.clone"], unfollowed := true, recurses := true, apart := false }
def FnExactNormalWithSaid : Prop := fnExactNormalWithRow.holds Try.pinned (OpenSpec.ofChange fnExactNormalWithSpec)

/-- ITS FALSE NEIGHBOUR: 'it returns false'. Refute it at one input. -/
def fnExactNormalWithWrong : ChangeSpec := { name := "fnExactNormalWith", fn := fun _ => fun
  | [d1, d2] => { results := [.lit (.bool false)], args := [d1, d2] }
  | _ => none }
def FnExactNormalWithWrongFalsely : Prop := fnExactNormalWithRow.holds Try.pinned (OpenSpec.ofChange fnExactNormalWithWrong)

/-- 'laws.FnExactCountPermuting': WHATEVER THE INPUT: true; the input reads as it did. -/
def fnExactCountPermutingSpec : ChangeSpec := { name := "fnExactCountPermuting", fn := fun _ => fun
  | [d1, d2] => { results := [.lit (.bool true)], args := [d1, d2] }
  | _ => none }
def fnExactCountPermutingRow : OpenClaim := { program := "ytnmdcmbcackchab", sum := "16fbc6ab047a834ca7f36a9be6d6bbc1fc6f494ebd6e9505fc9b94f3bf8a2917", func := "loop.example/g01163/laws.FnExactCountPermuting", spec := "fnExactCountPermuting", inPlace := ["maps.clone"], unfollowed := true, recurses := true, apart := false }
def FnExactCountPermutingSaid : Prop := fnExactCountPermutingRow.holds Try.pinned (OpenSpec.ofChange fnExactCountPermutingSpec)

/-- ITS FALSE NEIGHBOUR: 'it returns false'. Refute it at one input. -/
def fnExactCountPermutingWrong : ChangeSpec := { name := "fnExactCountPermuting", fn := fun _ => fun
  | [d1, d2] => { results := [.lit (.bool false)], args := [d1, d2] }
  | _ => none }
def FnExactCountPermutingWrongFalsely : Prop := fnExactCountPermutingRow.holds Try.pinned (OpenSpec.ofChange fnExactCountPermutingWrong)

/-- 'laws.FnAllPermutingCounted': WHATEVER THE INPUT: true; the input reads as it did. -/
def fnAllPermutingCountedSpec : ChangeSpec := { name := "fnAllPermutingCounted", fn := fun _ => fun
  | [d1, d2] => { results := [.lit (.bool true)], args := [d1, d2] }
  | _ => none }
def fnAllPermutingCountedRow : OpenClaim := { program := "ytnmdcmbcackchab", sum := "16fbc6ab047a834ca7f36a9be6d6bbc1fc6f494ebd6e9505fc9b94f3bf8a2917", func := "loop.example/g01163/laws.FnAllPermutingCounted", spec := "fnAllPermutingCounted", inPlace := ["maps.clone"], unfollowed := true, recurses := true, apart := false }
def FnAllPermutingCountedSaid : Prop := fnAllPermutingCountedRow.holds Try.pinned (OpenSpec.ofChange fnAllPermutingCountedSpec)

/-- ITS FALSE NEIGHBOUR: 'it returns false'. Refute it at one input. -/
def fnAllPermutingCountedWrong : ChangeSpec := { name := "fnAllPermutingCounted", fn := fun _ => fun
  | [d1, d2] => { results := [.lit (.bool false)], args := [d1, d2] }
  | _ => none }
def FnAllPermutingCountedWrongFalsely : Prop := fnAllPermutingCountedRow.holds Try.pinned (OpenSpec.ofChange fnAllPermutingCountedWrong)

/-- 'laws.FnExactLeastValues': WHATEVER THE INPUT: true; the input reads as it did. -/
def fnExactLeastValuesSpec : ChangeSpec := { name := "fnExactLeastValues", fn := fun _ => fun
  | [d1, d2] => { results := [.lit (.bool true)], args := [d1, d2] }
  | _ => none }
def fnExactLeastValuesRow : OpenClaim := { program := "ytnmdcmbcackchab", sum := "16fbc6ab047a834ca7f36a9be6d6bbc1fc6f494ebd6e9505fc9b94f3bf8a2917", func := "loop.example/g01163/laws.FnExactLeastValues", spec := "fnExactLeastValues", apart := false }
def FnExactLeastValuesSaid : Prop := fnExactLeastValuesRow.holds Try.pinned (OpenSpec.ofChange fnExactLeastValuesSpec)

/-- ITS FALSE NEIGHBOUR: 'it returns false'. Refute it at one input. -/
def fnExactLeastValuesWrong : ChangeSpec := { name := "fnExactLeastValues", fn := fun _ => fun
  | [d1, d2] => { results := [.lit (.bool false)], args := [d1, d2] }
  | _ => none }
def FnExactLeastValuesWrongFalsely : Prop := fnExactLeastValuesRow.holds Try.pinned (OpenSpec.ofChange fnExactLeastValuesWrong)

/-- 'laws.FnExactMostValues': WHATEVER THE INPUT: true; the input reads as it did. -/
def fnExactMostValuesSpec : ChangeSpec := { name := "fnExactMostValues", fn := fun _ => fun
  | [d1, d2] => { results := [.lit (.bool true)], args := [d1, d2] }
  | _ => none }
def fnExactMostValuesRow : OpenClaim := { program := "ytnmdcmbcackchab", sum := "16fbc6ab047a834ca7f36a9be6d6bbc1fc6f494ebd6e9505fc9b94f3bf8a2917", func := "loop.example/g01163/laws.FnExactMostValues", spec := "fnExactMostValues", apart := false }
def FnExactMostValuesSaid : Prop := fnExactMostValuesRow.holds Try.pinned (OpenSpec.ofChange fnExactMostValuesSpec)

/-- ITS FALSE NEIGHBOUR: 'it returns false'. Refute it at one input. -/
def fnExactMostValuesWrong : ChangeSpec := { name := "fnExactMostValues", fn := fun _ => fun
  | [d1, d2] => { results := [.lit (.bool false)], args := [d1, d2] }
  | _ => none }
def FnExactMostValuesWrongFalsely : Prop := fnExactMostValuesRow.holds Try.pinned (OpenSpec.ofChange fnExactMostValuesWrong)

/-- 'laws.FnExactMapsWithValues': WHATEVER THE INPUT: true; the input reads as it did. -/
def fnExactMapsWithValuesSpec : ChangeSpec := { name := "fnExactMapsWithValues", fn := fun _ => fun
  | [d1, d2] => { results := [.lit (.bool true)], args := [d1, d2] }
  | _ => none }
def fnExactMapsWithValuesRow : OpenClaim := { program := "ytnmdcmbcackchab", sum := "16fbc6ab047a834ca7f36a9be6d6bbc1fc6f494ebd6e9505fc9b94f3bf8a2917", func := "loop.example/g01163/laws.FnExactMapsWithValues", spec := "fnExactMapsWithValues", apart := false }
def FnExactMapsWithValuesSaid : Prop := fnExactMapsWithValuesRow.holds Try.pinned (OpenSpec.ofChange fnExactMapsWithValuesSpec)

/-- ITS FALSE NEIGHBOUR: 'it returns false'. Refute it at one input. -/
def fnExactMapsWithValuesWrong : ChangeSpec := { name := "fnExactMapsWithValues", fn := fun _ => fun
  | [d1, d2] => { results := [.lit (.bool false)], args := [d1, d2] }
  | _ => none }
def FnExactMapsWithValuesWrongFalsely : Prop := fnExactMapsWithValuesRow.holds Try.pinned (OpenSpec.ofChange fnExactMapsWithValuesWrong)

/- THE SECOND FORM. 'bulk': how many values and letters a reading holds, each counted each time it is reached (what is shared counts as often as it is met; a slice's spare places count too). A statement '..UptoSaid' is the law's where the arguments, and the package variables that the reading takes, are together of bulk at most 1048576: NARROWER than '..Said'. Prove '..Said' where nothing that the law and all that it calls make is longer than what came in: it says more and counts as full. Else prove '..UptoSaid'. A law counts once. -/
mutual
def uptoBulk {H : Type} : DataW H → Nat
  | .lit (.string bytes) => bytes.length + 1
  | .lit _ => 1
  | .nil => 1
  | .ptr d => uptoBulk d + 1
  | .slice elems spare => uptoBulkAll elems + uptoBulkAll spare + 1
  | .agg parts => uptoBulkAll parts + 1
  | .iface _ d => uptoBulk d + 1
  | .map entries => uptoBulkEntries entries + 1
  | .held _ => 1
def uptoBulkAll {H : Type} : List (DataW H) → Nat
  | [] => 0
  | d :: r => uptoBulk d + uptoBulkAll r
def uptoBulkEntries {H : Type} : List (Lit × DataW H) → Nat
  | [] => 0
  | x :: r => uptoBulkEntry x + uptoBulkEntries r
def uptoBulkEntry {H : Type} : Lit × DataW H → Nat
  | (.string bytes, d) => bytes.length + uptoBulk d + 1
  | (_, d) => uptoBulk d + 1
 end
def uptoSmall : (H : Type) → List (DataW H) → Bool := fun _ ds => decide (uptoBulkAll ds ≤ 1048576)
def OpenSpec.upto (s : _root_.Go.ChangeSpec) : _root_.Go.OpenSpec := { _root_.Go.OpenSpec.ofChange s with cond := some uptoSmall }

/-- 'laws.FnExactAsIndexed', WHERE WHAT IT READS IS OF BULK AT MOST 1048576: true; the input reads as it did. -/
def fnExactAsIndexedUptoRow : OpenClaim := { program := "ytnmdcmbcackchab", sum := "16fbc6ab047a834ca7f36a9be6d6bbc1fc6f494ebd6e9505fc9b94f3bf8a2917", func := "loop.example/g01163/laws.FnExactAsIndexed", spec := "fnExactAsIndexed", unfollowed := true, recurses := true, apart := false, narrowed := true }
def FnExactAsIndexedUptoSaid : Prop := fnExactAsIndexedUptoRow.holds Try.pinned (OpenSpec.upto fnExactAsIndexedSpec)

/-- 'laws.FnExactCountByValues', WHERE WHAT IT READS IS OF BULK AT MOST 1048576: true; the input reads as it did. -/
def fnExactCountByValuesUptoRow : OpenClaim := { program := "ytnmdcmbcackchab", sum := "16fbc6ab047a834ca7f36a9be6d6bbc1fc6f494ebd6e9505fc9b94f3bf8a2917", func := "loop.example/g01163/laws.FnExactCountByValues", spec := "fnExactCountByValues", unfollowed := true, recurses := true, apart := false, narrowed := true }
def FnExactCountByValuesUptoSaid : Prop := fnExactCountByValuesUptoRow.holds Try.pinned (OpenSpec.upto fnExactCountByValuesSpec)

/-- 'laws.FnExactNormalWith', WHERE WHAT IT READS IS OF BULK AT MOST 1048576: true; the input reads as it did. -/
def fnExactNormalWithUptoRow : OpenClaim := { program := "ytnmdcmbcackchab", sum := "16fbc6ab047a834ca7f36a9be6d6bbc1fc6f494ebd6e9505fc9b94f3bf8a2917", func := "loop.example/g01163/laws.FnExactNormalWith", spec := "fnExactNormalWith", inPlace := ["maps.clone"], unfollowed := true, recurses := true, apart := false, narrowed := true }
def FnExactNormalWithUptoSaid : Prop := fnExactNormalWithUptoRow.holds Try.pinned (OpenSpec.upto fnExactNormalWithSpec)

/-- 'laws.FnExactCountPermuting', WHERE WHAT IT READS IS OF BULK AT MOST 1048576: true; the input reads as it did. -/
def fnExactCountPermutingUptoRow : OpenClaim := { program := "ytnmdcmbcackchab", sum := "16fbc6ab047a834ca7f36a9be6d6bbc1fc6f494ebd6e9505fc9b94f3bf8a2917", func := "loop.example/g01163/laws.FnExactCountPermuting", spec := "fnExactCountPermuting", inPlace := ["maps.clone"], unfollowed := true, recurses := true, apart := false, narrowed := true }
def FnExactCountPermutingUptoSaid : Prop := fnExactCountPermutingUptoRow.holds Try.pinned (OpenSpec.upto fnExactCountPermutingSpec)

/-- 'laws.FnAllPermutingCounted', WHERE WHAT IT READS IS OF BULK AT MOST 1048576: true; the input reads as it did. -/
def fnAllPermutingCountedUptoRow : OpenClaim := { program := "ytnmdcmbcackchab", sum := "16fbc6ab047a834ca7f36a9be6d6bbc1fc6f494ebd6e9505fc9b94f3bf8a2917", func := "loop.example/g01163/laws.FnAllPermutingCounted", spec := "fnAllPermutingCounted", inPlace := ["maps.clone"], unfollowed := true, recurses := true, apart := false, narrowed := true }
def FnAllPermutingCountedUptoSaid : Prop := fnAllPermutingCountedUptoRow.holds Try.pinned (OpenSpec.upto fnAllPermutingCountedSpec)

/-- 'laws.FnExactLeastValues', WHERE WHAT IT READS IS OF BULK AT MOST 1048576: true; the input reads as it did. -/
def fnExactLeastValuesUptoRow : OpenClaim := { program := "ytnmdcmbcackchab", sum := "16fbc6ab047a834ca7f36a9be6d6bbc1fc6f494ebd6e9505fc9b94f3bf8a2917", func := "loop.example/g01163/laws.FnExactLeastValues", spec := "fnExactLeastValues", apart := false, narrowed := true }
def FnExactLeastValuesUptoSaid : Prop := fnExactLeastValuesUptoRow.holds Try.pinned (OpenSpec.upto fnExactLeastValuesSpec)

/-- 'laws.FnExactMostValues', WHERE WHAT IT READS IS OF BULK AT MOST 1048576: true; the input reads as it did. -/
def fnExactMostValuesUptoRow : OpenClaim := { program := "ytnmdcmbcackchab", sum := "16fbc6ab047a834ca7f36a9be6d6bbc1fc6f494ebd6e9505fc9b94f3bf8a2917", func := "loop.example/g01163/laws.FnExactMostValues", spec := "fnExactMostValues", apart := false, narrowed := true }
def FnExactMostValuesUptoSaid : Prop := fnExactMostValuesUptoRow.holds Try.pinned (OpenSpec.upto fnExactMostValuesSpec)

/-- 'laws.FnExactMapsWithValues', WHERE WHAT IT READS IS OF BULK AT MOST 1048576: true; the input reads as it did. -/
def fnExactMapsWithValuesUptoRow : OpenClaim := { program := "ytnmdcmbcackchab", sum := "16fbc6ab047a834ca7f36a9be6d6bbc1fc6f494ebd6e9505fc9b94f3bf8a2917", func := "loop.example/g01163/laws.FnExactMapsWithValues", spec := "fnExactMapsWithValues", apart := false, narrowed := true }
def FnExactMapsWithValuesUptoSaid : Prop := fnExactMapsWithValuesUptoRow.holds Try.pinned (OpenSpec.upto fnExactMapsWithValuesSpec)

end Rows
end Go.Proofs.Ytnmdcmbcackchab
