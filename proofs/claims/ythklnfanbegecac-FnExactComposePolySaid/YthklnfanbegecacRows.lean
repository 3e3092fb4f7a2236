/-
  No cell of these rows narrows 'for every input' (looked for: loops, veiled, ifaces, maps, wideKeys, modest, calm, conditions, laid).
  DERIVED. THE GIVEN ROWS OF THIS SEAT. 3 by the template 'for every input the law returns true; each argument reads behind the call as it read before'; 0 by the template 'total and deterministic' (their statements: YthklnfanbegecacTotals.lean).
  GIVEN WITH THE SEED: the statements are not yours to turn. If you find one false, say at which input.
  Laid BY PROGRAM, IN A SANDBOX (cutbox-rows.mjs): the forced cells as the released guide's own fill.sh prints them over the translation 17bc1aacc83c24d1… (all of the seat's roots in one cut). By AI agents, Wed Nov 11 2026. No macro, syntax, notation, axiom, sorry.
-/
import Derived.Test.YthklnfanbegecacChecked
import GoSem.Claim
import GoSem.ClaimJoined
import GoSem.ClaimMapViews
import Derived.JoinedTies
import Derived.KernelRfl
namespace Go.Proofs.Ythklnfanbegecac
/- THE CELL 'sum', in the pinned program and in every row, IS THE sha256 OF THE DUMP (.gsa) THAT YthklnfanbegecacProg.lean LOADS. Nothing in Lean hashes anything: it is a label: what it is worth is what the hold of that sum in a sandbox is worth. -/
noncomputable def Try.pinned : Pinned := { name := "ythklnfanbegecac", sum := "17bc1aacc83c24d132006b563acf8e2e4c7073600ac01765fde575626a433b61", checked := Try.checked }
namespace Rows
def none {H : Type} : Left H := { results := [], args := [] }

/-- 'laws.FnExactComposePoly': WHATEVER THE INPUT: true; the input reads as it did. -/
def fnExactComposePolySpec : ChangeSpec := { name := "fnExactComposePoly", fn := fun _ => fun
  | [d1, d2, d3] => { results := [.lit (.bool true)], args := [d1, d2, d3] }
  | _ => none }
def fnExactComposePolyRow : OpenClaim := { program := "ythklnfanbegecac", sum := "17bc1aacc83c24d132006b563acf8e2e4c7073600ac01765fde575626a433b61", func := "loop.example/g01163/laws.FnExactComposePoly", spec := "fnExactComposePoly", unfollowed := true, recurses := true, apart := false }
def FnExactComposePolySaid : Prop := fnExactComposePolyRow.holds Try.pinned (OpenSpec.ofChange fnExactComposePolySpec)

/-- ITS FALSE NEIGHBOUR: 'it returns false'. Refute it at one input. -/
def fnExactComposePolyWrong : ChangeSpec := { name := "fnExactComposePoly", fn := fun _ => fun
  | [d1, d2, d3] => { results := [.lit (.bool false)], args := [d1, d2, d3] }
  | _ => none }
def FnExactComposePolyWrongFalsely : Prop := fnExactComposePolyRow.holds Try.pinned (OpenSpec.ofChange fnExactComposePolyWrong)

/-- 'laws.FnExactShiftPoly': WHATEVER THE INPUT: true; the input reads as it did. -/
def fnExactShiftPolySpec : ChangeSpec := { name := "fnExactShiftPoly", fn := fun _ => fun
  | [d1, d2, d3] => { results := [.lit (.bool true)], args := [d1, d2, d3] }
  | _ => none }
def fnExactShiftPolyRow : OpenClaim := { program := "ythklnfanbegecac", sum := "17bc1aacc83c24d132006b563acf8e2e4c7073600ac01765fde575626a433b61", func := "loop.example/g01163/laws.FnExactShiftPoly", spec := "fnExactShiftPoly", unfollowed := true, recurses := true, apart := false }
def FnExactShiftPolySaid : Prop := fnExactShiftPolyRow.holds Try.pinned (OpenSpec.ofChange fnExactShiftPolySpec)

/-- ITS FALSE NEIGHBOUR: 'it returns false'. Refute it at one input. -/
def fnExactShiftPolyWrong : ChangeSpec := { name := "fnExactShiftPoly", fn := fun _ => fun
  | [d1, d2, d3] => { results := [.lit (.bool false)], args := [d1, d2, d3] }
  | _ => none }
def FnExactShiftPolyWrongFalsely : Prop := fnExactShiftPolyRow.holds Try.pinned (OpenSpec.ofChange fnExactShiftPolyWrong)

/-- 'laws.FnExactPowerPoly': WHATEVER THE INPUT: true; the input reads as it did. -/
def fnExactPowerPolySpec : ChangeSpec := { name := "fnExactPowerPoly", fn := fun _ => fun
  | [d1, d2, d3] => { results := [.lit (.bool true)], args := [d1, d2, d3] }
  | _ => none }
def fnExactPowerPolyRow : OpenClaim := { program := "ythklnfanbegecac", sum := "17bc1aacc83c24d132006b563acf8e2e4c7073600ac01765fde575626a433b61", func := "loop.example/g01163/laws.FnExactPowerPoly", spec := "fnExactPowerPoly", unfollowed := true, recurses := true, apart := false }
def FnExactPowerPolySaid : Prop := fnExactPowerPolyRow.holds Try.pinned (OpenSpec.ofChange fnExactPowerPolySpec)

/-- ITS FALSE NEIGHBOUR: 'it returns false'. Refute it at one input. -/
def fnExactPowerPolyWrong : ChangeSpec := { name := "fnExactPowerPoly", fn := fun _ => fun
  | [d1, d2, d3] => { results := [.lit (.bool false)], args := [d1, d2, d3] }
  | _ => none }
def FnExactPowerPolyWrongFalsely : Prop := fnExactPowerPolyRow.holds Try.pinned (OpenSpec.ofChange fnExactPowerPolyWrong)

/- THE SECOND FORM. 'bulk': how many values and letters a reading holds, each counted each time it is reached (what is shared counts as often as it is met; a slice's spare places count too). A statement '..UptoSaid' is the law's where the arguments, and the package variables that the reading takes, are together of bulk at most 1048576: NARROWER than '..Said'. Prove '..Said' where nothing that the law and all that it calls make is longer than what came in: it says more and counts as full. Else prove '..UptoSaid'. A law counts once. -/
mutual
def uptoBulk {H : Type} : DataW H → Nat
  | .lit (.string bytes) => bytes.length + 1
  | .lit _ => 1
  | .nil => 1
  | .ptr d => uptoBulk d + 1
  | .slice elems spare => uptoBulkAll elems + uptoBulkAll spare + 1
  | .agg parts => uptoBulkAll parts + 1
  | .iface _ d => uptoBulk d + 1
  | .map entries => uptoBulkEntries entries + 1
  | .held _ => 1
def uptoBulkAll {H : Type} : List (DataW H) → Nat
  | [] => 0
  | d :: r => uptoBulk d + uptoBulkAll r
def uptoBulkEntries {H : Type} : List (Lit × DataW H) → Nat
  | [] => 0
  | x :: r => uptoBulkEntry x + uptoBulkEntries r
def uptoBulkEntry {H : Type} : Lit × DataW H → Nat
  | (.string bytes, d) => bytes.length + uptoBulk d + 1
  | (_, d) => uptoBulk d + 1
 end
def uptoSmall : (H : Type) → List (DataW H) → Bool := fun _ ds => decide (uptoBulkAll ds ≤ 1048576)
def OpenSpec.upto (s : _root_.Go.ChangeSpec) : _root_.Go.OpenSpec := { _root_.Go.OpenSpec.ofChange s with cond := some uptoSmall }

/-- 'laws.FnExactComposePoly', WHERE WHAT IT READS IS OF BULK AT MOST 1048576: true; the input reads as it did. -/
def fnExactComposePolyUptoRow : OpenClaim := { program := "ythklnfanbegecac", sum := "17bc1aacc83c24d132006b563acf8e2e4c7073600ac01765fde575626a433b61", func := "loop.example/g01163/laws.FnExactComposePoly", spec := "fnExactComposePoly", unfollowed := true, recurses := true, apart := false, narrowed := true }
def FnExactComposePolyUptoSaid : Prop := fnExactComposePolyUptoRow.holds Try.pinned (OpenSpec.upto fnExactComposePolySpec)

/-- 'laws.FnExactShiftPoly', WHERE WHAT IT READS IS OF BULK AT MOST 1048576: true; the input reads as it did. -/
def fnExactShiftPolyUptoRow : OpenClaim := { program := "ythklnfanbegecac", sum := "17bc1aacc83c24d132006b563acf8e2e4c7073600ac01765fde575626a433b61", func := "loop.example/g01163/laws.FnExactShiftPoly", spec := "fnExactShiftPoly", unfollowed := true, recurses := true, apart := false, narrowed := true }
def FnExactShiftPolyUptoSaid : Prop := fnExactShiftPolyUptoRow.holds Try.pinned (OpenSpec.upto fnExactShiftPolySpec)

/-- 'laws.FnExactPowerPoly', WHERE WHAT IT READS IS OF BULK AT MOST 1048576: true; the input reads as it did. -/
def fnExactPowerPolyUptoRow : OpenClaim := { program := "ythklnfanbegecac", sum := "17bc1aacc83c24d132006b563acf8e2e4c7073600ac01765fde575626a433b61", func := "loop.example/g01163/laws.FnExactPowerPoly", spec := "fnExactPowerPoly", unfollowed := true, recurses := true, apart := false, narrowed := true }
def FnExactPowerPolyUptoSaid : Prop := fnExactPowerPolyUptoRow.holds Try.pinned (OpenSpec.upto fnExactPowerPolySpec)

end Rows
end Go.Proofs.Ythklnfanbegecac
