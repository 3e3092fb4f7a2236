/-
  No cell of these rows narrows 'for every input' (looked for: loops, veiled, ifaces, maps, wideKeys, modest, calm, conditions, laid).
  DERIVED. THE GIVEN ROWS OF THIS SEAT. 10 by the template 'for every input the law returns true; each argument reads behind the call as it read before'; 0 by the template 'total and deterministic' (their statements: YthklnfanbegecaaTotals.lean).
  GIVEN WITH THE SEED: the statements are not yours to turn. If you find one false, say at which input.
  Laid BY PROGRAM, IN A SANDBOX (cutbox-rows.mjs): the forced cells as the released guide's own fill.sh prints them over the translation 7601dc06f505f0c5… (all of the seat's roots in one cut). By AI agents, Wed Nov 11 2026. No macro, syntax, notation, axiom, sorry.
-/
import Derived.Test.YthklnfanbegecaaChecked
import GoSem.Claim
import GoSem.ClaimJoined
import GoSem.ClaimMapViews
import Derived.JoinedTies
import Derived.KernelRfl
namespace Go.Proofs.Ythklnfanbegecaa
/- THE CELL 'sum', in the pinned program and in every row, IS THE sha256 OF THE DUMP (.gsa) THAT YthklnfanbegecaaProg.lean LOADS. Nothing in Lean hashes anything: it is a label: what it is worth is what the hold of that sum in a sandbox is worth. -/
noncomputable def Try.pinned : Pinned := { name := "ythklnfanbegecaa", sum := "7601dc06f505f0c5375aabdf2d8c4cf17607c77de61b5dbf6775a549eb8d28f2", checked := Try.checked }
namespace Rows
def none {H : Type} : Left H := { results := [], args := [] }

/-- 'laws.FnExactAllPrimitive': WHATEVER THE INPUT: true; the input reads as it did. -/
def fnExactAllPrimitiveSpec : ChangeSpec := { name := "fnExactAllPrimitive", fn := fun _ => fun
  | [d] => { results := [.lit (.bool true)], args := [d] }
  | _ => none }
def fnExactAllPrimitiveRow : OpenClaim := { program := "ythklnfanbegecaa", sum := "7601dc06f505f0c5375aabdf2d8c4cf17607c77de61b5dbf6775a549eb8d28f2", func := "loop.example/g01163/laws.FnExactAllPrimitive", spec := "fnExactAllPrimitive", unfollowed := true, recurses := true, apart := false }
def FnExactAllPrimitiveSaid : Prop := fnExactAllPrimitiveRow.holds Try.pinned (OpenSpec.ofChange fnExactAllPrimitiveSpec)

/-- ITS FALSE NEIGHBOUR: 'it returns false'. Refute it at one input. -/
def fnExactAllPrimitiveWrong : ChangeSpec := { name := "fnExactAllPrimitive", fn := fun _ => fun
  | [d] => { results := [.lit (.bool false)], args := [d] }
  | _ => none }
def FnExactAllPrimitiveWrongFalsely : Prop := fnExactAllPrimitiveRow.holds Try.pinned (OpenSpec.ofChange fnExactAllPrimitiveWrong)

/-- 'laws.FnExactTraceOf': WHATEVER THE INPUT: true; the input reads as it did. -/
def fnExactTraceOfSpec : ChangeSpec := { name := "fnExactTraceOf", fn := fun _ => fun
  | [d1, d2] => { results := [.lit (.bool true)], args := [d1, d2] }
  | _ => none }
def fnExactTraceOfRow : OpenClaim := { program := "ythklnfanbegecaa", sum := "7601dc06f505f0c5375aabdf2d8c4cf17607c77de61b5dbf6775a549eb8d28f2", func := "loop.example/g01163/laws.FnExactTraceOf", spec := "fnExactTraceOf", apart := false }
def FnExactTraceOfSaid : Prop := fnExactTraceOfRow.holds Try.pinned (OpenSpec.ofChange fnExactTraceOfSpec)

/-- ITS FALSE NEIGHBOUR: 'it returns false'. Refute it at one input. -/
def fnExactTraceOfWrong : ChangeSpec := { name := "fnExactTraceOf", fn := fun _ => fun
  | [d1, d2] => { results := [.lit (.bool false)], args := [d1, d2] }
  | _ => none }
def FnExactTraceOfWrongFalsely : Prop := fnExactTraceOfRow.holds Try.pinned (OpenSpec.ofChange fnExactTraceOfWrong)

/-- 'laws.FnExactNormOf': WHATEVER THE INPUT: true; the input reads as it did. -/
def fnExactNormOfSpec : ChangeSpec := { name := "fnExactNormOf", fn := fun _ => fun
  | [d1, d2] => { results := [.lit (.bool true)], args := [d1, d2] }
  | _ => none }
def fnExactNormOfRow : OpenClaim := { program := "ythklnfanbegecaa", sum := "7601dc06f505f0c5375aabdf2d8c4cf17607c77de61b5dbf6775a549eb8d28f2", func := "loop.example/g01163/laws.FnExactNormOf", spec := "fnExactNormOf", apart := false }
def FnExactNormOfSaid : Prop := fnExactNormOfRow.holds Try.pinned (OpenSpec.ofChange fnExactNormOfSpec)

/-- ITS FALSE NEIGHBOUR: 'it returns false'. Refute it at one input. -/
def fnExactNormOfWrong : ChangeSpec := { name := "fnExactNormOf", fn := fun _ => fun
  | [d1, d2] => { results := [.lit (.bool false)], args := [d1, d2] }
  | _ => none }
def FnExactNormOfWrongFalsely : Prop := fnExactNormOfRow.holds Try.pinned (OpenSpec.ofChange fnExactNormOfWrong)

/-- 'laws.FnExactConjugatesOf': WHATEVER THE INPUT: true; the input reads as it did. -/
def fnExactConjugatesOfSpec : ChangeSpec := { name := "fnExactConjugatesOf", fn := fun _ => fun
  | [d1, d2] => { results := [.lit (.bool true)], args := [d1, d2] }
  | _ => none }
def fnExactConjugatesOfRow : OpenClaim := { program := "ythklnfanbegecaa", sum := "7601dc06f505f0c5375aabdf2d8c4cf17607c77de61b5dbf6775a549eb8d28f2", func := "loop.example/g01163/laws.FnExactConjugatesOf", spec := "fnExactConjugatesOf", apart := false }
def FnExactConjugatesOfSaid : Prop := fnExactConjugatesOfRow.holds Try.pinned (OpenSpec.ofChange fnExactConjugatesOfSpec)

/-- ITS FALSE NEIGHBOUR: 'it returns false'. Refute it at one input. -/
def fnExactConjugatesOfWrong : ChangeSpec := { name := "fnExactConjugatesOf", fn := fun _ => fun
  | [d1, d2] => { results := [.lit (.bool false)], args := [d1, d2] }
  | _ => none }
def FnExactConjugatesOfWrongFalsely : Prop := fnExactConjugatesOfRow.holds Try.pinned (OpenSpec.ofChange fnExactConjugatesOfWrong)

/-- 'laws.FnExactSubfieldOf': WHATEVER THE INPUT: true; the input reads as it did. -/
def fnExactSubfieldOfSpec : ChangeSpec := { name := "fnExactSubfieldOf", fn := fun _ => fun
  | [d1, d2] => { results := [.lit (.bool true)], args := [d1, d2] }
  | _ => none }
def fnExactSubfieldOfRow : OpenClaim := { program := "ythklnfanbegecaa", sum := "7601dc06f505f0c5375aabdf2d8c4cf17607c77de61b5dbf6775a549eb8d28f2", func := "loop.example/g01163/laws.FnExactSubfieldOf", spec := "fnExactSubfieldOf", unfollowed := true, recurses := true, apart := false }
def FnExactSubfieldOfSaid : Prop := fnExactSubfieldOfRow.holds Try.pinned (OpenSpec.ofChange fnExactSubfieldOfSpec)

/-- ITS FALSE NEIGHBOUR: 'it returns false'. Refute it at one input. -/
def fnExactSubfieldOfWrong : ChangeSpec := { name := "fnExactSubfieldOf", fn := fun _ => fun
  | [d1, d2] => { results := [.lit (.bool false)], args := [d1, d2] }
  | _ => none }
def FnExactSubfieldOfWrongFalsely : Prop := fnExactSubfieldOfRow.holds Try.pinned (OpenSpec.ofChange fnExactSubfieldOfWrong)

/-- 'laws.FnExactSquaresOf': WHATEVER THE INPUT: true; the input reads as it did. -/
def fnExactSquaresOfSpec : ChangeSpec := { name := "fnExactSquaresOf", fn := fun _ => fun
  | [d] => { results := [.lit (.bool true)], args := [d] }
  | _ => none }
def fnExactSquaresOfRow : OpenClaim := { program := "ythklnfanbegecaa", sum := "7601dc06f505f0c5375aabdf2d8c4cf17607c77de61b5dbf6775a549eb8d28f2", func := "loop.example/g01163/laws.FnExactSquaresOf", spec := "fnExactSquaresOf", unfollowed := true, recurses := true, apart := false }
def FnExactSquaresOfSaid : Prop := fnExactSquaresOfRow.holds Try.pinned (OpenSpec.ofChange fnExactSquaresOfSpec)

/-- ITS FALSE NEIGHBOUR: 'it returns false'. Refute it at one input. -/
def fnExactSquaresOfWrong : ChangeSpec := { name := "fnExactSquaresOf", fn := fun _ => fun
  | [d] => { results := [.lit (.bool false)], args := [d] }
  | _ => none }
def FnExactSquaresOfWrongFalsely : Prop := fnExactSquaresOfRow.holds Try.pinned (OpenSpec.ofChange fnExactSquaresOfWrong)

/-- 'laws.FnExactIsPoly': WHATEVER THE INPUT: true; the input reads as it did. -/
def fnExactIsPolySpec : ChangeSpec := { name := "fnExactIsPoly", fn := fun _ => fun
  | [d1, d2] => { results := [.lit (.bool true)], args := [d1, d2] }
  | _ => none }
def fnExactIsPolyRow : OpenClaim := { program := "ythklnfanbegecaa", sum := "7601dc06f505f0c5375aabdf2d8c4cf17607c77de61b5dbf6775a549eb8d28f2", func := "loop.example/g01163/laws.FnExactIsPoly", spec := "fnExactIsPoly", apart := false }
def FnExactIsPolySaid : Prop := fnExactIsPolyRow.holds Try.pinned (OpenSpec.ofChange fnExactIsPolySpec)

/-- ITS FALSE NEIGHBOUR: 'it returns false'. Refute it at one input. -/
def fnExactIsPolyWrong : ChangeSpec := { name := "fnExactIsPoly", fn := fun _ => fun
  | [d1, d2] => { results := [.lit (.bool false)], args := [d1, d2] }
  | _ => none }
def FnExactIsPolyWrongFalsely : Prop := fnExactIsPolyRow.holds Try.pinned (OpenSpec.ofChange fnExactIsPolyWrong)

/-- 'laws.FnExactIsTable': WHATEVER THE INPUT: true; the input reads as it did. -/
def fnExactIsTableSpec : ChangeSpec := { name := "fnExactIsTable", fn := fun _ => fun
  | [d1, d2] => { results := [.lit (.bool true)], args := [d1, d2] }
  | _ => none }
def fnExactIsTableRow : OpenClaim := { program := "ythklnfanbegecaa", sum := "7601dc06f505f0c5375aabdf2d8c4cf17607c77de61b5dbf6775a549eb8d28f2", func := "loop.example/g01163/laws.FnExactIsTable", spec := "fnExactIsTable", apart := false }
def FnExactIsTableSaid : Prop := fnExactIsTableRow.holds Try.pinned (OpenSpec.ofChange fnExactIsTableSpec)

/-- ITS FALSE NEIGHBOUR: 'it returns false'. Refute it at one input. -/
def fnExactIsTableWrong : ChangeSpec := { name := "fnExactIsTable", fn := fun _ => fun
  | [d1, d2] => { results := [.lit (.bool false)], args := [d1, d2] }
  | _ => none }
def FnExactIsTableWrongFalsely : Prop := fnExactIsTableRow.holds Try.pinned (OpenSpec.ofChange fnExactIsTableWrong)

/-- 'laws.FnExactPolyWith': WHATEVER THE INPUT: true; the input reads as it did. -/
def fnExactPolyWithSpec : ChangeSpec := { name := "fnExactPolyWith", fn := fun _ => fun
  | [d1, d2] => { results := [.lit (.bool true)], args := [d1, d2] }
  | _ => none }
def fnExactPolyWithRow : OpenClaim := { program := "ythklnfanbegecaa", sum := "7601dc06f505f0c5375aabdf2d8c4cf17607c77de61b5dbf6775a549eb8d28f2", func := "loop.example/g01163/laws.FnExactPolyWith", spec := "fnExactPolyWith", apart := false }
def FnExactPolyWithSaid : Prop := fnExactPolyWithRow.holds Try.pinned (OpenSpec.ofChange fnExactPolyWithSpec)

/-- ITS FALSE NEIGHBOUR: 'it returns false'. Refute it at one input. -/
def fnExactPolyWithWrong : ChangeSpec := { name := "fnExactPolyWith", fn := fun _ => fun
  | [d1, d2] => { results := [.lit (.bool false)], args := [d1, d2] }
  | _ => none }
def FnExactPolyWithWrongFalsely : Prop := fnExactPolyWithRow.holds Try.pinned (OpenSpec.ofChange fnExactPolyWithWrong)

/-- 'laws.FnExactIterateTable': WHATEVER THE INPUT: true; the input reads as it did. -/
def fnExactIterateTableSpec : ChangeSpec := { name := "fnExactIterateTable", fn := fun _ => fun
  | [d1, d2, d3] => { results := [.lit (.bool true)], args := [d1, d2, d3] }
  | _ => none }
def fnExactIterateTableRow : OpenClaim := { program := "ythklnfanbegecaa", sum := "7601dc06f505f0c5375aabdf2d8c4cf17607c77de61b5dbf6775a549eb8d28f2", func := "loop.example/g01163/laws.FnExactIterateTable", spec := "fnExactIterateTable", unfollowed := true, recurses := true, apart := false }
def FnExactIterateTableSaid : Prop := fnExactIterateTableRow.holds Try.pinned (OpenSpec.ofChange fnExactIterateTableSpec)

/-- ITS FALSE NEIGHBOUR: 'it returns false'. Refute it at one input. -/
def fnExactIterateTableWrong : ChangeSpec := { name := "fnExactIterateTable", fn := fun _ => fun
  | [d1, d2, d3] => { results := [.lit (.bool false)], args := [d1, d2, d3] }
  | _ => none }
def FnExactIterateTableWrongFalsely : Prop := fnExactIterateTableRow.holds Try.pinned (OpenSpec.ofChange fnExactIterateTableWrong)

/- THE SECOND FORM. 'bulk': how many values and letters a reading holds, each counted each time it is reached (what is shared counts as often as it is met; a slice's spare places count too). A statement '..UptoSaid' is the law's where the arguments, and the package variables that the reading takes, are together of bulk at most 1048576: NARROWER than '..Said'. Prove '..Said' where nothing that the law and all that it calls make is longer than what came in: it says more and counts as full. Else prove '..UptoSaid'. A law counts once. -/
mutual
def uptoBulk {H : Type} : DataW H → Nat
  | .lit (.string bytes) => bytes.length + 1
  | .lit _ => 1
  | .nil => 1
  | .ptr d => uptoBulk d + 1
  | .slice elems spare => uptoBulkAll elems + uptoBulkAll spare + 1
  | .agg parts => uptoBulkAll parts + 1
  | .iface _ d => uptoBulk d + 1
  | .map entries => uptoBulkEntries entries + 1
  | .held _ => 1
def uptoBulkAll {H : Type} : List (DataW H) → Nat
  | [] => 0
  | d :: r => uptoBulk d + uptoBulkAll r
def uptoBulkEntries {H : Type} : List (Lit × DataW H) → Nat
  | [] => 0
  | x :: r => uptoBulkEntry x + uptoBulkEntries r
def uptoBulkEntry {H : Type} : Lit × DataW H → Nat
  | (.string bytes, d) => bytes.length + uptoBulk d + 1
  | (_, d) => uptoBulk d + 1
 end
def uptoSmall : (H : Type) → List (DataW H) → Bool := fun _ ds => decide (uptoBulkAll ds ≤ 1048576)
def OpenSpec.upto (s : _root_.Go.ChangeSpec) : _root_.Go.OpenSpec := { _root_.Go.OpenSpec.ofChange s with cond := some uptoSmall }

/-- 'laws.FnExactAllPrimitive', WHERE WHAT IT READS IS OF BULK AT MOST 1048576: true; the input reads as it did. -/
def fnExactAllPrimitiveUptoRow : OpenClaim := { program := "ythklnfanbegecaa", sum := "7601dc06f505f0c5375aabdf2d8c4cf17607c77de61b5dbf6775a549eb8d28f2", func := "loop.example/g01163/laws.FnExactAllPrimitive", spec := "fnExactAllPrimitive", unfollowed := true, recurses := true, apart := false, narrowed := true }
def FnExactAllPrimitiveUptoSaid : Prop := fnExactAllPrimitiveUptoRow.holds Try.pinned (OpenSpec.upto fnExactAllPrimitiveSpec)

/-- 'laws.FnExactTraceOf', WHERE WHAT IT READS IS OF BULK AT MOST 1048576: true; the input reads as it did. -/
def fnExactTraceOfUptoRow : OpenClaim := { program := "ythklnfanbegecaa", sum := "7601dc06f505f0c5375aabdf2d8c4cf17607c77de61b5dbf6775a549eb8d28f2", func := "loop.example/g01163/laws.FnExactTraceOf", spec := "fnExactTraceOf", apart := false, narrowed := true }
def FnExactTraceOfUptoSaid : Prop := fnExactTraceOfUptoRow.holds Try.pinned (OpenSpec.upto fnExactTraceOfSpec)

/-- 'laws.FnExactNormOf', WHERE WHAT IT READS IS OF BULK AT MOST 1048576: true; the input reads as it did. -/
def fnExactNormOfUptoRow : OpenClaim := { program := "ythklnfanbegecaa", sum := "7601dc06f505f0c5375aabdf2d8c4cf17607c77de61b5dbf6775a549eb8d28f2", func := "loop.example/g01163/laws.FnExactNormOf", spec := "fnExactNormOf", apart := false, narrowed := true }
def FnExactNormOfUptoSaid : Prop := fnExactNormOfUptoRow.holds Try.pinned (OpenSpec.upto fnExactNormOfSpec)

/-- 'laws.FnExactConjugatesOf', WHERE WHAT IT READS IS OF BULK AT MOST 1048576: true; the input reads as it did. -/
def fnExactConjugatesOfUptoRow : OpenClaim := { program := "ythklnfanbegecaa", sum := "7601dc06f505f0c5375aabdf2d8c4cf17607c77de61b5dbf6775a549eb8d28f2", func := "loop.example/g01163/laws.FnExactConjugatesOf", spec := "fnExactConjugatesOf", apart := false, narrowed := true }
def FnExactConjugatesOfUptoSaid : Prop := fnExactConjugatesOfUptoRow.holds Try.pinned (OpenSpec.upto fnExactConjugatesOfSpec)

/-- 'laws.FnExactSubfieldOf', WHERE WHAT IT READS IS OF BULK AT MOST 1048576: true; the input reads as it did. -/
def fnExactSubfieldOfUptoRow : OpenClaim := { program := "ythklnfanbegecaa", sum := "7601dc06f505f0c5375aabdf2d8c4cf17607c77de61b5dbf6775a549eb8d28f2", func := "loop.example/g01163/laws.FnExactSubfieldOf", spec := "fnExactSubfieldOf", unfollowed := true, recurses := true, apart := false, narrowed := true }
def FnExactSubfieldOfUptoSaid : Prop := fnExactSubfieldOfUptoRow.holds Try.pinned (OpenSpec.upto fnExactSubfieldOfSpec)

/-- 'laws.FnExactSquaresOf', WHERE WHAT IT READS IS OF BULK AT MOST 1048576: true; the input reads as it did. -/
def fnExactSquaresOfUptoRow : OpenClaim := { program := "ythklnfanbegecaa", sum := "7601dc06f505f0c5375aabdf2d8c4cf17607c77de61b5dbf6775a549eb8d28f2", func := "loop.example/g01163/laws.FnExactSquaresOf", spec := "fnExactSquaresOf", unfollowed := true, recurses := true, apart := false, narrowed := true }
def FnExactSquaresOfUptoSaid : Prop := fnExactSquaresOfUptoRow.holds Try.pinned (OpenSpec.upto fnExactSquaresOfSpec)

/-- 'laws.FnExactIsPoly', WHERE WHAT IT READS IS OF BULK AT MOST 1048576: true; the input reads as it did. -/
def fnExactIsPolyUptoRow : OpenClaim := { program := "ythklnfanbegecaa", sum := "7601dc06f505f0c5375aabdf2d8c4cf17607c77de61b5dbf6775a549eb8d28f2", func := "loop.example/g01163/laws.FnExactIsPoly", spec := "fnExactIsPoly", apart := false, narrowed := true }
def FnExactIsPolyUptoSaid : Prop := fnExactIsPolyUptoRow.holds Try.pinned (OpenSpec.upto fnExactIsPolySpec)

/-- 'laws.FnExactIsTable', WHERE WHAT IT READS IS OF BULK AT MOST 1048576: true; the input reads as it did. -/
def fnExactIsTableUptoRow : OpenClaim := { program := "ythklnfanbegecaa", sum := "7601dc06f505f0c5375aabdf2d8c4cf17607c77de61b5dbf6775a549eb8d28f2", func := "loop.example/g01163/laws.FnExactIsTable", spec := "fnExactIsTable", apart := false, narrowed := true }
def FnExactIsTableUptoSaid : Prop := fnExactIsTableUptoRow.holds Try.pinned (OpenSpec.upto fnExactIsTableSpec)

/-- 'laws.FnExactPolyWith', WHERE WHAT IT READS IS OF BULK AT MOST 1048576: true; the input reads as it did. -/
def fnExactPolyWithUptoRow : OpenClaim := { program := "ythklnfanbegecaa", sum := "7601dc06f505f0c5375aabdf2d8c4cf17607c77de61b5dbf6775a549eb8d28f2", func := "loop.example/g01163/laws.FnExactPolyWith", spec := "fnExactPolyWith", apart := false, narrowed := true }
def FnExactPolyWithUptoSaid : Prop := fnExactPolyWithUptoRow.holds Try.pinned (OpenSpec.upto fnExactPolyWithSpec)

/-- 'laws.FnExactIterateTable', WHERE WHAT IT READS IS OF BULK AT MOST 1048576: true; the input reads as it did. -/
def fnExactIterateTableUptoRow : OpenClaim := { program := "ythklnfanbegecaa", sum := "7601dc06f505f0c5375aabdf2d8c4cf17607c77de61b5dbf6775a549eb8d28f2", func := "loop.example/g01163/laws.FnExactIterateTable", spec := "fnExactIterateTable", unfollowed := true, recurses := true, apart := false, narrowed := true }
def FnExactIterateTableUptoSaid : Prop := fnExactIterateTableUptoRow.holds Try.pinned (OpenSpec.upto fnExactIterateTableSpec)

end Rows
end Go.Proofs.Ythklnfanbegecaa
