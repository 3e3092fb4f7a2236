/-
  No cell of these rows narrows 'for every input' (looked for: loops, veiled, ifaces, maps, wideKeys, modest, calm, conditions, laid).
  DERIVED. THE GIVEN ROWS OF THIS SEAT. 10 by the template 'for every input the law returns true; each argument reads behind the call as it read before'; 0 by the template 'total and deterministic' (their statements: YtnmdcmbcackchaaTotals.lean).
  GIVEN WITH THE SEED: the statements are not yours to turn. If you find one false, say at which input.
  Laid BY PROGRAM, IN A SANDBOX (cutbox-rows.mjs): the forced cells as the released guide's own fill.sh prints them over the translation ac0814772d8d23e6… (all of the seat's roots in one cut). By AI agents, Wed Nov 11 2026. No macro, syntax, notation, axiom, sorry.
-/
import Derived.Test.YtnmdcmbcackchaaChecked
import GoSem.Claim
import GoSem.ClaimJoined
import GoSem.ClaimMapViews
import Derived.JoinedTies
import Derived.KernelRfl
namespace Go.Proofs.Ytnmdcmbcackchaa
/- THE CELL 'sum', in the pinned program and in every row, IS THE sha256 OF THE DUMP (.gsa) THAT YtnmdcmbcackchaaProg.lean LOADS. Nothing in Lean hashes anything: it is a label: what it is worth is what the hold of that sum in a sandbox is worth. -/
noncomputable def Try.pinned : Pinned := { name := "ytnmdcmbcackchaa", sum := "ac0814772d8d23e66f547d2160545f4ef9034c7f9087e1128761c7836e876cb7", checked := Try.checked }
namespace Rows
def none {H : Type} : Left H := { results := [], args := [] }

/-- 'laws.FnExactValuesOf': WHATEVER THE INPUT: true; the input reads as it did. -/
def fnExactValuesOfSpec : ChangeSpec := { name := "fnExactValuesOf", fn := fun _ => fun
  | [d1, d2] => { results := [.lit (.bool true)], args := [d1, d2] }
  | _ => none }
def fnExactValuesOfRow : OpenClaim := { program := "ytnmdcmbcackchaa", sum := "ac0814772d8d23e66f547d2160545f4ef9034c7f9087e1128761c7836e876cb7", func := "loop.example/g01163/laws.FnExactValuesOf", spec := "fnExactValuesOf", unfollowed := true, recurses := true, apart := false }
def FnExactValuesOfSaid : Prop := fnExactValuesOfRow.holds Try.pinned (OpenSpec.ofChange fnExactValuesOfSpec)

/-- ITS FALSE NEIGHBOUR: 'it returns false'. Refute it at one input. -/
def fnExactValuesOfWrong : ChangeSpec := { name := "fnExactValuesOf", fn := fun _ => fun
  | [d1, d2] => { results := [.lit (.bool false)], args := [d1, d2] }
  | _ => none }
def FnExactValuesOfWrongFalsely : Prop := fnExactValuesOfRow.holds Try.pinned (OpenSpec.ofChange fnExactValuesOfWrong)

/-- 'laws.FnExactCountValues': WHATEVER THE INPUT: true; the input reads as it did. -/
def fnExactCountValuesSpec : ChangeSpec := { name := "fnExactCountValues", fn := fun _ => fun
  | [d1, d2] => { results := [.lit (.bool true)], args := [d1, d2] }
  | _ => none }
def fnExactCountValuesRow : OpenClaim := { program := "ytnmdcmbcackchaa", sum := "ac0814772d8d23e66f547d2160545f4ef9034c7f9087e1128761c7836e876cb7", func := "loop.example/g01163/laws.FnExactCountValues", spec := "fnExactCountValues", unfollowed := true, recurses := true, apart := false }
def FnExactCountValuesSaid : Prop := fnExactCountValuesRow.holds Try.pinned (OpenSpec.ofChange fnExactCountValuesSpec)

/-- ITS FALSE NEIGHBOUR: 'it returns false'. Refute it at one input. -/
def fnExactCountValuesWrong : ChangeSpec := { name := "fnExactCountValues", fn := fun _ => fun
  | [d1, d2] => { results := [.lit (.bool false)], args := [d1, d2] }
  | _ => none }
def FnExactCountValuesWrongFalsely : Prop := fnExactCountValuesRow.holds Try.pinned (OpenSpec.ofChange fnExactCountValuesWrong)

/-- 'laws.FnExactPlacesOf': WHATEVER THE INPUT: true; the input reads as it did. -/
def fnExactPlacesOfSpec : ChangeSpec := { name := "fnExactPlacesOf", fn := fun _ => fun
  | [d1, d2, d3] => { results := [.lit (.bool true)], args := [d1, d2, d3] }
  | _ => none }
def fnExactPlacesOfRow : OpenClaim := { program := "ytnmdcmbcackchaa", sum := "ac0814772d8d23e66f547d2160545f4ef9034c7f9087e1128761c7836e876cb7", func := "loop.example/g01163/laws.FnExactPlacesOf", spec := "fnExactPlacesOf", unfollowed := true, recurses := true, apart := false }
def FnExactPlacesOfSaid : Prop := fnExactPlacesOfRow.holds Try.pinned (OpenSpec.ofChange fnExactPlacesOfSpec)

/-- ITS FALSE NEIGHBOUR: 'it returns false'. Refute it at one input. -/
def fnExactPlacesOfWrong : ChangeSpec := { name := "fnExactPlacesOf", fn := fun _ => fun
  | [d1, d2, d3] => { results := [.lit (.bool false)], args := [d1, d2, d3] }
  | _ => none }
def FnExactPlacesOfWrongFalsely : Prop := fnExactPlacesOfRow.holds Try.pinned (OpenSpec.ofChange fnExactPlacesOfWrong)

/-- 'laws.FnExactPlaceCounts': WHATEVER THE INPUT: true; the input reads as it did. -/
def fnExactPlaceCountsSpec : ChangeSpec := { name := "fnExactPlaceCounts", fn := fun _ => fun
  | [d1, d2] => { results := [.lit (.bool true)], args := [d1, d2] }
  | _ => none }
def fnExactPlaceCountsRow : OpenClaim := { program := "ytnmdcmbcackchaa", sum := "ac0814772d8d23e66f547d2160545f4ef9034c7f9087e1128761c7836e876cb7", func := "loop.example/g01163/laws.FnExactPlaceCounts", spec := "fnExactPlaceCounts", unfollowed := true, recurses := true, apart := false }
def FnExactPlaceCountsSaid : Prop := fnExactPlaceCountsRow.holds Try.pinned (OpenSpec.ofChange fnExactPlaceCountsSpec)

/-- ITS FALSE NEIGHBOUR: 'it returns false'. Refute it at one input. -/
def fnExactPlaceCountsWrong : ChangeSpec := { name := "fnExactPlaceCounts", fn := fun _ => fun
  | [d1, d2] => { results := [.lit (.bool false)], args := [d1, d2] }
  | _ => none }
def FnExactPlaceCountsWrongFalsely : Prop := fnExactPlaceCountsRow.holds Try.pinned (OpenSpec.ofChange fnExactPlaceCountsWrong)

/-- 'laws.FnExactPairsAlike': WHATEVER THE INPUT: true; the input reads as it did. -/
def fnExactPairsAlikeSpec : ChangeSpec := { name := "fnExactPairsAlike", fn := fun _ => fun
  | [d1, d2] => { results := [.lit (.bool true)], args := [d1, d2] }
  | _ => none }
def fnExactPairsAlikeRow : OpenClaim := { program := "ytnmdcmbcackchaa", sum := "ac0814772d8d23e66f547d2160545f4ef9034c7f9087e1128761c7836e876cb7", func := "loop.example/g01163/laws.FnExactPairsAlike", spec := "fnExactPairsAlike", unfollowed := true, recurses := true, apart := false }
def FnExactPairsAlikeSaid : Prop := fnExactPairsAlikeRow.holds Try.pinned (OpenSpec.ofChange fnExactPairsAlikeSpec)

/-- ITS FALSE NEIGHBOUR: 'it returns false'. Refute it at one input. -/
def fnExactPairsAlikeWrong : ChangeSpec := { name := "fnExactPairsAlike", fn := fun _ => fun
  | [d1, d2] => { results := [.lit (.bool false)], args := [d1, d2] }
  | _ => none }
def FnExactPairsAlikeWrongFalsely : Prop := fnExactPairsAlikeRow.holds Try.pinned (OpenSpec.ofChange fnExactPairsAlikeWrong)

/-- 'laws.FnExactValueMoment': WHATEVER THE INPUT: true; the input reads as it did. -/
def fnExactValueMomentSpec : ChangeSpec := { name := "fnExactValueMoment", fn := fun _ => fun
  | [d1, d2, d3] => { results := [.lit (.bool true)], args := [d1, d2, d3] }
  | _ => none }
def fnExactValueMomentRow : OpenClaim := { program := "ytnmdcmbcackchaa", sum := "ac0814772d8d23e66f547d2160545f4ef9034c7f9087e1128761c7836e876cb7", func := "loop.example/g01163/laws.FnExactValueMoment", spec := "fnExactValueMoment", unfollowed := true, recurses := true, apart := false }
def FnExactValueMomentSaid : Prop := fnExactValueMomentRow.holds Try.pinned (OpenSpec.ofChange fnExactValueMomentSpec)

/-- ITS FALSE NEIGHBOUR: 'it returns false'. Refute it at one input. -/
def fnExactValueMomentWrong : ChangeSpec := { name := "fnExactValueMoment", fn := fun _ => fun
  | [d1, d2, d3] => { results := [.lit (.bool false)], args := [d1, d2, d3] }
  | _ => none }
def FnExactValueMomentWrongFalsely : Prop := fnExactValueMomentRow.holds Try.pinned (OpenSpec.ofChange fnExactValueMomentWrong)

/-- 'laws.FnExactFirstMoment': WHATEVER THE INPUT: true; the input reads as it did. -/
def fnExactFirstMomentSpec : ChangeSpec := { name := "fnExactFirstMoment", fn := fun _ => fun
  | [d1, d2] => { results := [.lit (.bool true)], args := [d1, d2] }
  | _ => none }
def fnExactFirstMomentRow : OpenClaim := { program := "ytnmdcmbcackchaa", sum := "ac0814772d8d23e66f547d2160545f4ef9034c7f9087e1128761c7836e876cb7", func := "loop.example/g01163/laws.FnExactFirstMoment", spec := "fnExactFirstMoment", unfollowed := true, recurses := true, apart := false }
def FnExactFirstMomentSaid : Prop := fnExactFirstMomentRow.holds Try.pinned (OpenSpec.ofChange fnExactFirstMomentSpec)

/-- ITS FALSE NEIGHBOUR: 'it returns false'. Refute it at one input. -/
def fnExactFirstMomentWrong : ChangeSpec := { name := "fnExactFirstMoment", fn := fun _ => fun
  | [d1, d2] => { results := [.lit (.bool false)], args := [d1, d2] }
  | _ => none }
def FnExactFirstMomentWrongFalsely : Prop := fnExactFirstMomentRow.holds Try.pinned (OpenSpec.ofChange fnExactFirstMomentWrong)

/-- 'laws.FnExactIsTwoToOne': WHATEVER THE INPUT: true; the input reads as it did. -/
def fnExactIsTwoToOneSpec : ChangeSpec := { name := "fnExactIsTwoToOne", fn := fun _ => fun
  | [d1, d2] => { results := [.lit (.bool true)], args := [d1, d2] }
  | _ => none }
def fnExactIsTwoToOneRow : OpenClaim := { program := "ytnmdcmbcackchaa", sum := "ac0814772d8d23e66f547d2160545f4ef9034c7f9087e1128761c7836e876cb7", func := "loop.example/g01163/laws.FnExactIsTwoToOne", spec := "fnExactIsTwoToOne", unfollowed := true, recurses := true, apart := false }
def FnExactIsTwoToOneSaid : Prop := fnExactIsTwoToOneRow.holds Try.pinned (OpenSpec.ofChange fnExactIsTwoToOneSpec)

/-- ITS FALSE NEIGHBOUR: 'it returns false'. Refute it at one input. -/
def fnExactIsTwoToOneWrong : ChangeSpec := { name := "fnExactIsTwoToOne", fn := fun _ => fun
  | [d1, d2] => { results := [.lit (.bool false)], args := [d1, d2] }
  | _ => none }
def FnExactIsTwoToOneWrongFalsely : Prop := fnExactIsTwoToOneRow.holds Try.pinned (OpenSpec.ofChange fnExactIsTwoToOneWrong)

/-- 'laws.FnExactValuesOfSet': WHATEVER THE INPUT: true; the input reads as it did. -/
def fnExactValuesOfSetSpec : ChangeSpec := { name := "fnExactValuesOfSet", fn := fun _ => fun
  | [d1, d2, d3] => { results := [.lit (.bool true)], args := [d1, d2, d3] }
  | _ => none }
def fnExactValuesOfSetRow : OpenClaim := { program := "ytnmdcmbcackchaa", sum := "ac0814772d8d23e66f547d2160545f4ef9034c7f9087e1128761c7836e876cb7", func := "loop.example/g01163/laws.FnExactValuesOfSet", spec := "fnExactValuesOfSet", unfollowed := true, recurses := true, apart := false }
def FnExactValuesOfSetSaid : Prop := fnExactValuesOfSetRow.holds Try.pinned (OpenSpec.ofChange fnExactValuesOfSetSpec)

/-- ITS FALSE NEIGHBOUR: 'it returns false'. Refute it at one input. -/
def fnExactValuesOfSetWrong : ChangeSpec := { name := "fnExactValuesOfSet", fn := fun _ => fun
  | [d1, d2, d3] => { results := [.lit (.bool false)], args := [d1, d2, d3] }
  | _ => none }
def FnExactValuesOfSetWrongFalsely : Prop := fnExactValuesOfSetRow.holds Try.pinned (OpenSpec.ofChange fnExactValuesOfSetWrong)

/-- 'laws.FnExactWithValues': WHATEVER THE INPUT: true; the input reads as it did. -/
def fnExactWithValuesSpec : ChangeSpec := { name := "fnExactWithValues", fn := fun _ => fun
  | [d1, d2] => { results := [.lit (.bool true)], args := [d1, d2] }
  | _ => none }
def fnExactWithValuesRow : OpenClaim := { program := "ytnmdcmbcackchaa", sum := "ac0814772d8d23e66f547d2160545f4ef9034c7f9087e1128761c7836e876cb7", func := "loop.example/g01163/laws.FnExactWithValues", spec := "fnExactWithValues", unfollowed := true, recurses := true, apart := false }
def FnExactWithValuesSaid : Prop := fnExactWithValuesRow.holds Try.pinned (OpenSpec.ofChange fnExactWithValuesSpec)

/-- ITS FALSE NEIGHBOUR: 'it returns false'. Refute it at one input. -/
def fnExactWithValuesWrong : ChangeSpec := { name := "fnExactWithValues", fn := fun _ => fun
  | [d1, d2] => { results := [.lit (.bool false)], args := [d1, d2] }
  | _ => none }
def FnExactWithValuesWrongFalsely : Prop := fnExactWithValuesRow.holds Try.pinned (OpenSpec.ofChange fnExactWithValuesWrong)

/- THE SECOND FORM. 'bulk': how many values and letters a reading holds, each counted each time it is reached (what is shared counts as often as it is met; a slice's spare places count too). A statement '..UptoSaid' is the law's where the arguments, and the package variables that the reading takes, are together of bulk at most 1048576: NARROWER than '..Said'. Prove '..Said' where nothing that the law and all that it calls make is longer than what came in: it says more and counts as full. Else prove '..UptoSaid'. A law counts once. -/
mutual
def uptoBulk {H : Type} : DataW H → Nat
  | .lit (.string bytes) => bytes.length + 1
  | .lit _ => 1
  | .nil => 1
  | .ptr d => uptoBulk d + 1
  | .slice elems spare => uptoBulkAll elems + uptoBulkAll spare + 1
  | .agg parts => uptoBulkAll parts + 1
  | .iface _ d => uptoBulk d + 1
  | .map entries => uptoBulkEntries entries + 1
  | .held _ => 1
def uptoBulkAll {H : Type} : List (DataW H) → Nat
  | [] => 0
  | d :: r => uptoBulk d + uptoBulkAll r
def uptoBulkEntries {H : Type} : List (Lit × DataW H) → Nat
  | [] => 0
  | x :: r => uptoBulkEntry x + uptoBulkEntries r
def uptoBulkEntry {H : Type} : Lit × DataW H → Nat
  | (.string bytes, d) => bytes.length + uptoBulk d + 1
  | (_, d) => uptoBulk d + 1
 end
def uptoSmall : (H : Type) → List (DataW H) → Bool := fun _ ds => decide (uptoBulkAll ds ≤ 1048576)
def OpenSpec.upto (s : _root_.Go.ChangeSpec) : _root_.Go.OpenSpec := { _root_.Go.OpenSpec.ofChange s with cond := some uptoSmall }

/-- 'laws.FnExactValuesOf', WHERE WHAT IT READS IS OF BULK AT MOST 1048576: true; the input reads as it did. -/
def fnExactValuesOfUptoRow : OpenClaim := { program := "ytnmdcmbcackchaa", sum := "ac0814772d8d23e66f547d2160545f4ef9034c7f9087e1128761c7836e876cb7", func := "loop.example/g01163/laws.FnExactValuesOf", spec := "fnExactValuesOf", unfollowed := true, recurses := true, apart := false, narrowed := true }
def FnExactValuesOfUptoSaid : Prop := fnExactValuesOfUptoRow.holds Try.pinned (OpenSpec.upto fnExactValuesOfSpec)

/-- 'laws.FnExactCountValues', WHERE WHAT IT READS IS OF BULK AT MOST 1048576: true; the input reads as it did. -/
def fnExactCountValuesUptoRow : OpenClaim := { program := "ytnmdcmbcackchaa", sum := "ac0814772d8d23e66f547d2160545f4ef9034c7f9087e1128761c7836e876cb7", func := "loop.example/g01163/laws.FnExactCountValues", spec := "fnExactCountValues", unfollowed := true, recurses := true, apart := false, narrowed := true }
def FnExactCountValuesUptoSaid : Prop := fnExactCountValuesUptoRow.holds Try.pinned (OpenSpec.upto fnExactCountValuesSpec)

/-- 'laws.FnExactPlacesOf', WHERE WHAT IT READS IS OF BULK AT MOST 1048576: true; the input reads as it did. -/
def fnExactPlacesOfUptoRow : OpenClaim := { program := "ytnmdcmbcackchaa", sum := "ac0814772d8d23e66f547d2160545f4ef9034c7f9087e1128761c7836e876cb7", func := "loop.example/g01163/laws.FnExactPlacesOf", spec := "fnExactPlacesOf", unfollowed := true, recurses := true, apart := false, narrowed := true }
def FnExactPlacesOfUptoSaid : Prop := fnExactPlacesOfUptoRow.holds Try.pinned (OpenSpec.upto fnExactPlacesOfSpec)

/-- 'laws.FnExactPlaceCounts', WHERE WHAT IT READS IS OF BULK AT MOST 1048576: true; the input reads as it did. -/
def fnExactPlaceCountsUptoRow : OpenClaim := { program := "ytnmdcmbcackchaa", sum := "ac0814772d8d23e66f547d2160545f4ef9034c7f9087e1128761c7836e876cb7", func := "loop.example/g01163/laws.FnExactPlaceCounts", spec := "fnExactPlaceCounts", unfollowed := true, recurses := true, apart := false, narrowed := true }
def FnExactPlaceCountsUptoSaid : Prop := fnExactPlaceCountsUptoRow.holds Try.pinned (OpenSpec.upto fnExactPlaceCountsSpec)

/-- 'laws.FnExactPairsAlike', WHERE WHAT IT READS IS OF BULK AT MOST 1048576: true; the input reads as it did. -/
def fnExactPairsAlikeUptoRow : OpenClaim := { program := "ytnmdcmbcackchaa", sum := "ac0814772d8d23e66f547d2160545f4ef9034c7f9087e1128761c7836e876cb7", func := "loop.example/g01163/laws.FnExactPairsAlike", spec := "fnExactPairsAlike", unfollowed := true, recurses := true, apart := false, narrowed := true }
def FnExactPairsAlikeUptoSaid : Prop := fnExactPairsAlikeUptoRow.holds Try.pinned (OpenSpec.upto fnExactPairsAlikeSpec)

/-- 'laws.FnExactValueMoment', WHERE WHAT IT READS IS OF BULK AT MOST 1048576: true; the input reads as it did. -/
def fnExactValueMomentUptoRow : OpenClaim := { program := "ytnmdcmbcackchaa", sum := "ac0814772d8d23e66f547d2160545f4ef9034c7f9087e1128761c7836e876cb7", func := "loop.example/g01163/laws.FnExactValueMoment", spec := "fnExactValueMoment", unfollowed := true, recurses := true, apart := false, narrowed := true }
def FnExactValueMomentUptoSaid : Prop := fnExactValueMomentUptoRow.holds Try.pinned (OpenSpec.upto fnExactValueMomentSpec)

/-- 'laws.FnExactFirstMoment', WHERE WHAT IT READS IS OF BULK AT MOST 1048576: true; the input reads as it did. -/
def fnExactFirstMomentUptoRow : OpenClaim := { program := "ytnmdcmbcackchaa", sum := "ac0814772d8d23e66f547d2160545f4ef9034c7f9087e1128761c7836e876cb7", func := "loop.example/g01163/laws.FnExactFirstMoment", spec := "fnExactFirstMoment", unfollowed := true, recurses := true, apart := false, narrowed := true }
def FnExactFirstMomentUptoSaid : Prop := fnExactFirstMomentUptoRow.holds Try.pinned (OpenSpec.upto fnExactFirstMomentSpec)

/-- 'laws.FnExactIsTwoToOne', WHERE WHAT IT READS IS OF BULK AT MOST 1048576: true; the input reads as it did. -/
def fnExactIsTwoToOneUptoRow : OpenClaim := { program := "ytnmdcmbcackchaa", sum := "ac0814772d8d23e66f547d2160545f4ef9034c7f9087e1128761c7836e876cb7", func := "loop.example/g01163/laws.FnExactIsTwoToOne", spec := "fnExactIsTwoToOne", unfollowed := true, recurses := true, apart := false, narrowed := true }
def FnExactIsTwoToOneUptoSaid : Prop := fnExactIsTwoToOneUptoRow.holds Try.pinned (OpenSpec.upto fnExactIsTwoToOneSpec)

/-- 'laws.FnExactValuesOfSet', WHERE WHAT IT READS IS OF BULK AT MOST 1048576: true; the input reads as it did. -/
def fnExactValuesOfSetUptoRow : OpenClaim := { program := "ytnmdcmbcackchaa", sum := "ac0814772d8d23e66f547d2160545f4ef9034c7f9087e1128761c7836e876cb7", func := "loop.example/g01163/laws.FnExactValuesOfSet", spec := "fnExactValuesOfSet", unfollowed := true, recurses := true, apart := false, narrowed := true }
def FnExactValuesOfSetUptoSaid : Prop := fnExactValuesOfSetUptoRow.holds Try.pinned (OpenSpec.upto fnExactValuesOfSetSpec)

/-- 'laws.FnExactWithValues', WHERE WHAT IT READS IS OF BULK AT MOST 1048576: true; the input reads as it did. -/
def fnExactWithValuesUptoRow : OpenClaim := { program := "ytnmdcmbcackchaa", sum := "ac0814772d8d23e66f547d2160545f4ef9034c7f9087e1128761c7836e876cb7", func := "loop.example/g01163/laws.FnExactWithValues", spec := "fnExactWithValues", unfollowed := true, recurses := true, apart := false, narrowed := true }
def FnExactWithValuesUptoSaid : Prop := fnExactWithValuesUptoRow.holds Try.pinned (OpenSpec.upto fnExactWithValuesSpec)

end Rows
end Go.Proofs.Ytnmdcmbcackchaa
