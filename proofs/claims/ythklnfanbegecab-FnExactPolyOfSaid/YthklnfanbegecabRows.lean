/-
  No cell of these rows narrows 'for every input' (looked for: loops, veiled, ifaces, maps, wideKeys, modest, calm, conditions, laid).
  DERIVED. THE GIVEN ROWS OF THIS SEAT. 9 by the template 'for every input the law returns true; each argument reads behind the call as it read before'; 0 by the template 'total and deterministic' (their statements: YthklnfanbegecabTotals.lean).
  GIVEN WITH THE SEED: the statements are not yours to turn. If you find one false, say at which input.
  Laid BY PROGRAM, IN A SANDBOX (cutbox-rows.mjs): the forced cells as the released guide's own fill.sh prints them over the translation 4163e18702bd2a8d… (all of the seat's roots in one cut). By AI agents, Wed Nov 11 2026. No macro, syntax, notation, axiom, sorry.
-/
import Derived.Test.YthklnfanbegecabChecked
import GoSem.Claim
import GoSem.ClaimJoined
import GoSem.ClaimMapViews
import Derived.JoinedTies
import Derived.KernelRfl
namespace Go.Proofs.Ythklnfanbegecab
/- THE CELL 'sum', in the pinned program and in every row, IS THE sha256 OF THE DUMP (.gsa) THAT YthklnfanbegecabProg.lean LOADS. Nothing in Lean hashes anything: it is a label: what it is worth is what the hold of that sum in a sandbox is worth. -/
noncomputable def Try.pinned : Pinned := { name := "ythklnfanbegecab", sum := "4163e18702bd2a8d2d47fbd6a89c591fd13f6ab824d100fc8eb0de78888bffc1", checked := Try.checked }
namespace Rows
def none {H : Type} : Left H := { results := [], args := [] }

/-- 'laws.FnExactValueAt': WHATEVER THE INPUT: true; the input reads as it did. -/
def fnExactValueAtSpec : ChangeSpec := { name := "fnExactValueAt", fn := fun _ => fun
  | [d1, d2, d3] => { results := [.lit (.bool true)], args := [d1, d2, d3] }
  | _ => none }
def fnExactValueAtRow : OpenClaim := { program := "ythklnfanbegecab", sum := "4163e18702bd2a8d2d47fbd6a89c591fd13f6ab824d100fc8eb0de78888bffc1", func := "loop.example/g01163/laws.FnExactValueAt", spec := "fnExactValueAt", unfollowed := true, recurses := true, apart := false }
def FnExactValueAtSaid : Prop := fnExactValueAtRow.holds Try.pinned (OpenSpec.ofChange fnExactValueAtSpec)

/-- ITS FALSE NEIGHBOUR: 'it returns false'. Refute it at one input. -/
def fnExactValueAtWrong : ChangeSpec := { name := "fnExactValueAt", fn := fun _ => fun
  | [d1, d2, d3] => { results := [.lit (.bool false)], args := [d1, d2, d3] }
  | _ => none }
def FnExactValueAtWrongFalsely : Prop := fnExactValueAtRow.holds Try.pinned (OpenSpec.ofChange fnExactValueAtWrong)

/-- 'laws.FnExactTableOf': WHATEVER THE INPUT: true; the input reads as it did. -/
def fnExactTableOfSpec : ChangeSpec := { name := "fnExactTableOf", fn := fun _ => fun
  | [d1, d2] => { results := [.lit (.bool true)], args := [d1, d2] }
  | _ => none }
def fnExactTableOfRow : OpenClaim := { program := "ythklnfanbegecab", sum := "4163e18702bd2a8d2d47fbd6a89c591fd13f6ab824d100fc8eb0de78888bffc1", func := "loop.example/g01163/laws.FnExactTableOf", spec := "fnExactTableOf", unfollowed := true, recurses := true, apart := false }
def FnExactTableOfSaid : Prop := fnExactTableOfRow.holds Try.pinned (OpenSpec.ofChange fnExactTableOfSpec)

/-- ITS FALSE NEIGHBOUR: 'it returns false'. Refute it at one input. -/
def fnExactTableOfWrong : ChangeSpec := { name := "fnExactTableOf", fn := fun _ => fun
  | [d1, d2] => { results := [.lit (.bool false)], args := [d1, d2] }
  | _ => none }
def FnExactTableOfWrongFalsely : Prop := fnExactTableOfRow.holds Try.pinned (OpenSpec.ofChange fnExactTableOfWrong)

/-- 'laws.FnExactDegreeOf': WHATEVER THE INPUT: true; the input reads as it did. -/
def fnExactDegreeOfSpec : ChangeSpec := { name := "fnExactDegreeOf", fn := fun _ => fun
  | [d1, d2] => { results := [.lit (.bool true)], args := [d1, d2] }
  | _ => none }
def fnExactDegreeOfRow : OpenClaim := { program := "ythklnfanbegecab", sum := "4163e18702bd2a8d2d47fbd6a89c591fd13f6ab824d100fc8eb0de78888bffc1", func := "loop.example/g01163/laws.FnExactDegreeOf", spec := "fnExactDegreeOf", unfollowed := true, recurses := true, apart := false }
def FnExactDegreeOfSaid : Prop := fnExactDegreeOfRow.holds Try.pinned (OpenSpec.ofChange fnExactDegreeOfSpec)

/-- ITS FALSE NEIGHBOUR: 'it returns false'. Refute it at one input. -/
def fnExactDegreeOfWrong : ChangeSpec := { name := "fnExactDegreeOf", fn := fun _ => fun
  | [d1, d2] => { results := [.lit (.bool false)], args := [d1, d2] }
  | _ => none }
def FnExactDegreeOfWrongFalsely : Prop := fnExactDegreeOfRow.holds Try.pinned (OpenSpec.ofChange fnExactDegreeOfWrong)

/-- 'laws.FnExactScalePoly': WHATEVER THE INPUT: true; the input reads as it did. -/
def fnExactScalePolySpec : ChangeSpec := { name := "fnExactScalePoly", fn := fun _ => fun
  | [d1, d2, d3] => { results := [.lit (.bool true)], args := [d1, d2, d3] }
  | _ => none }
def fnExactScalePolyRow : OpenClaim := { program := "ythklnfanbegecab", sum := "4163e18702bd2a8d2d47fbd6a89c591fd13f6ab824d100fc8eb0de78888bffc1", func := "loop.example/g01163/laws.FnExactScalePoly", spec := "fnExactScalePoly", unfollowed := true, recurses := true, apart := false }
def FnExactScalePolySaid : Prop := fnExactScalePolyRow.holds Try.pinned (OpenSpec.ofChange fnExactScalePolySpec)

/-- ITS FALSE NEIGHBOUR: 'it returns false'. Refute it at one input. -/
def fnExactScalePolyWrong : ChangeSpec := { name := "fnExactScalePoly", fn := fun _ => fun
  | [d1, d2, d3] => { results := [.lit (.bool false)], args := [d1, d2, d3] }
  | _ => none }
def FnExactScalePolyWrongFalsely : Prop := fnExactScalePolyRow.holds Try.pinned (OpenSpec.ofChange fnExactScalePolyWrong)

/-- 'laws.FnExactNumberOfPoly': WHATEVER THE INPUT: true; the input reads as it did. -/
def fnExactNumberOfPolySpec : ChangeSpec := { name := "fnExactNumberOfPoly", fn := fun _ => fun
  | [d1, d2] => { results := [.lit (.bool true)], args := [d1, d2] }
  | _ => none }
def fnExactNumberOfPolyRow : OpenClaim := { program := "ythklnfanbegecab", sum := "4163e18702bd2a8d2d47fbd6a89c591fd13f6ab824d100fc8eb0de78888bffc1", func := "loop.example/g01163/laws.FnExactNumberOfPoly", spec := "fnExactNumberOfPoly", unfollowed := true, recurses := true, apart := false }
def FnExactNumberOfPolySaid : Prop := fnExactNumberOfPolyRow.holds Try.pinned (OpenSpec.ofChange fnExactNumberOfPolySpec)

/-- ITS FALSE NEIGHBOUR: 'it returns false'. Refute it at one input. -/
def fnExactNumberOfPolyWrong : ChangeSpec := { name := "fnExactNumberOfPoly", fn := fun _ => fun
  | [d1, d2] => { results := [.lit (.bool false)], args := [d1, d2] }
  | _ => none }
def FnExactNumberOfPolyWrongFalsely : Prop := fnExactNumberOfPolyRow.holds Try.pinned (OpenSpec.ofChange fnExactNumberOfPolyWrong)

/-- 'laws.FnExactPlusPoly': WHATEVER THE INPUT: true; the input reads as it did. -/
def fnExactPlusPolySpec : ChangeSpec := { name := "fnExactPlusPoly", fn := fun _ => fun
  | [d1, d2, d3] => { results := [.lit (.bool true)], args := [d1, d2, d3] }
  | _ => none }
def fnExactPlusPolyRow : OpenClaim := { program := "ythklnfanbegecab", sum := "4163e18702bd2a8d2d47fbd6a89c591fd13f6ab824d100fc8eb0de78888bffc1", func := "loop.example/g01163/laws.FnExactPlusPoly", spec := "fnExactPlusPoly", unfollowed := true, recurses := true, apart := false }
def FnExactPlusPolySaid : Prop := fnExactPlusPolyRow.holds Try.pinned (OpenSpec.ofChange fnExactPlusPolySpec)

/-- ITS FALSE NEIGHBOUR: 'it returns false'. Refute it at one input. -/
def fnExactPlusPolyWrong : ChangeSpec := { name := "fnExactPlusPoly", fn := fun _ => fun
  | [d1, d2, d3] => { results := [.lit (.bool false)], args := [d1, d2, d3] }
  | _ => none }
def FnExactPlusPolyWrongFalsely : Prop := fnExactPlusPolyRow.holds Try.pinned (OpenSpec.ofChange fnExactPlusPolyWrong)

/-- 'laws.FnExactReducePoly': WHATEVER THE INPUT: true; the input reads as it did. -/
def fnExactReducePolySpec : ChangeSpec := { name := "fnExactReducePoly", fn := fun _ => fun
  | [d1, d2] => { results := [.lit (.bool true)], args := [d1, d2] }
  | _ => none }
def fnExactReducePolyRow : OpenClaim := { program := "ythklnfanbegecab", sum := "4163e18702bd2a8d2d47fbd6a89c591fd13f6ab824d100fc8eb0de78888bffc1", func := "loop.example/g01163/laws.FnExactReducePoly", spec := "fnExactReducePoly", unfollowed := true, recurses := true, apart := false }
def FnExactReducePolySaid : Prop := fnExactReducePolyRow.holds Try.pinned (OpenSpec.ofChange fnExactReducePolySpec)

/-- ITS FALSE NEIGHBOUR: 'it returns false'. Refute it at one input. -/
def fnExactReducePolyWrong : ChangeSpec := { name := "fnExactReducePoly", fn := fun _ => fun
  | [d1, d2] => { results := [.lit (.bool false)], args := [d1, d2] }
  | _ => none }
def FnExactReducePolyWrongFalsely : Prop := fnExactReducePolyRow.holds Try.pinned (OpenSpec.ofChange fnExactReducePolyWrong)

/-- 'laws.FnExactTimesPoly': WHATEVER THE INPUT: true; the input reads as it did. -/
def fnExactTimesPolySpec : ChangeSpec := { name := "fnExactTimesPoly", fn := fun _ => fun
  | [d1, d2, d3] => { results := [.lit (.bool true)], args := [d1, d2, d3] }
  | _ => none }
def fnExactTimesPolyRow : OpenClaim := { program := "ythklnfanbegecab", sum := "4163e18702bd2a8d2d47fbd6a89c591fd13f6ab824d100fc8eb0de78888bffc1", func := "loop.example/g01163/laws.FnExactTimesPoly", spec := "fnExactTimesPoly", unfollowed := true, recurses := true, apart := false }
def FnExactTimesPolySaid : Prop := fnExactTimesPolyRow.holds Try.pinned (OpenSpec.ofChange fnExactTimesPolySpec)

/-- ITS FALSE NEIGHBOUR: 'it returns false'. Refute it at one input. -/
def fnExactTimesPolyWrong : ChangeSpec := { name := "fnExactTimesPoly", fn := fun _ => fun
  | [d1, d2, d3] => { results := [.lit (.bool false)], args := [d1, d2, d3] }
  | _ => none }
def FnExactTimesPolyWrongFalsely : Prop := fnExactTimesPolyRow.holds Try.pinned (OpenSpec.ofChange fnExactTimesPolyWrong)

/-- 'laws.FnExactPolyOf': WHATEVER THE INPUT: true; the input reads as it did. -/
def fnExactPolyOfSpec : ChangeSpec := { name := "fnExactPolyOf", fn := fun _ => fun
  | [d1, d2] => { results := [.lit (.bool true)], args := [d1, d2] }
  | _ => none }
def fnExactPolyOfRow : OpenClaim := { program := "ythklnfanbegecab", sum := "4163e18702bd2a8d2d47fbd6a89c591fd13f6ab824d100fc8eb0de78888bffc1", func := "loop.example/g01163/laws.FnExactPolyOf", spec := "fnExactPolyOf", unfollowed := true, recurses := true, apart := false }
def FnExactPolyOfSaid : Prop := fnExactPolyOfRow.holds Try.pinned (OpenSpec.ofChange fnExactPolyOfSpec)

/-- ITS FALSE NEIGHBOUR: 'it returns false'. Refute it at one input. -/
def fnExactPolyOfWrong : ChangeSpec := { name := "fnExactPolyOf", fn := fun _ => fun
  | [d1, d2] => { results := [.lit (.bool false)], args := [d1, d2] }
  | _ => none }
def FnExactPolyOfWrongFalsely : Prop := fnExactPolyOfRow.holds Try.pinned (OpenSpec.ofChange fnExactPolyOfWrong)

/- THE SECOND FORM. 'bulk': how many values and letters a reading holds, each counted each time it is reached (what is shared counts as often as it is met; a slice's spare places count too). A statement '..UptoSaid' is the law's where the arguments, and the package variables that the reading takes, are together of bulk at most 1048576: NARROWER than '..Said'. Prove '..Said' where nothing that the law and all that it calls make is longer than what came in: it says more and counts as full. Else prove '..UptoSaid'. A law counts once. -/
mutual
def uptoBulk {H : Type} : DataW H → Nat
  | .lit (.string bytes) => bytes.length + 1
  | .lit _ => 1
  | .nil => 1
  | .ptr d => uptoBulk d + 1
  | .slice elems spare => uptoBulkAll elems + uptoBulkAll spare + 1
  | .agg parts => uptoBulkAll parts + 1
  | .iface _ d => uptoBulk d + 1
  | .map entries => uptoBulkEntries entries + 1
  | .held _ => 1
def uptoBulkAll {H : Type} : List (DataW H) → Nat
  | [] => 0
  | d :: r => uptoBulk d + uptoBulkAll r
def uptoBulkEntries {H : Type} : List (Lit × DataW H) → Nat
  | [] => 0
  | x :: r => uptoBulkEntry x + uptoBulkEntries r
def uptoBulkEntry {H : Type} : Lit × DataW H → Nat
  | (.string bytes, d) => bytes.length + uptoBulk d + 1
  | (_, d) => uptoBulk d + 1
 end
def uptoSmall : (H : Type) → List (DataW H) → Bool := fun _ ds => decide (uptoBulkAll ds ≤ 1048576)
def OpenSpec.upto (s : _root_.Go.ChangeSpec) : _root_.Go.OpenSpec := { _root_.Go.OpenSpec.ofChange s with cond := some uptoSmall }

/-- 'laws.FnExactValueAt', WHERE WHAT IT READS IS OF BULK AT MOST 1048576: true; the input reads as it did. -/
def fnExactValueAtUptoRow : OpenClaim := { program := "ythklnfanbegecab", sum := "4163e18702bd2a8d2d47fbd6a89c591fd13f6ab824d100fc8eb0de78888bffc1", func := "loop.example/g01163/laws.FnExactValueAt", spec := "fnExactValueAt", unfollowed := true, recurses := true, apart := false, narrowed := true }
def FnExactValueAtUptoSaid : Prop := fnExactValueAtUptoRow.holds Try.pinned (OpenSpec.upto fnExactValueAtSpec)

/-- 'laws.FnExactTableOf', WHERE WHAT IT READS IS OF BULK AT MOST 1048576: true; the input reads as it did. -/
def fnExactTableOfUptoRow : OpenClaim := { program := "ythklnfanbegecab", sum := "4163e18702bd2a8d2d47fbd6a89c591fd13f6ab824d100fc8eb0de78888bffc1", func := "loop.example/g01163/laws.FnExactTableOf", spec := "fnExactTableOf", unfollowed := true, recurses := true, apart := false, narrowed := true }
def FnExactTableOfUptoSaid : Prop := fnExactTableOfUptoRow.holds Try.pinned (OpenSpec.upto fnExactTableOfSpec)

/-- 'laws.FnExactDegreeOf', WHERE WHAT IT READS IS OF BULK AT MOST 1048576: true; the input reads as it did. -/
def fnExactDegreeOfUptoRow : OpenClaim := { program := "ythklnfanbegecab", sum := "4163e18702bd2a8d2d47fbd6a89c591fd13f6ab824d100fc8eb0de78888bffc1", func := "loop.example/g01163/laws.FnExactDegreeOf", spec := "fnExactDegreeOf", unfollowed := true, recurses := true, apart := false, narrowed := true }
def FnExactDegreeOfUptoSaid : Prop := fnExactDegreeOfUptoRow.holds Try.pinned (OpenSpec.upto fnExactDegreeOfSpec)

/-- 'laws.FnExactScalePoly', WHERE WHAT IT READS IS OF BULK AT MOST 1048576: true; the input reads as it did. -/
def fnExactScalePolyUptoRow : OpenClaim := { program := "ythklnfanbegecab", sum := "4163e18702bd2a8d2d47fbd6a89c591fd13f6ab824d100fc8eb0de78888bffc1", func := "loop.example/g01163/laws.FnExactScalePoly", spec := "fnExactScalePoly", unfollowed := true, recurses := true, apart := false, narrowed := true }
def FnExactScalePolyUptoSaid : Prop := fnExactScalePolyUptoRow.holds Try.pinned (OpenSpec.upto fnExactScalePolySpec)

/-- 'laws.FnExactNumberOfPoly', WHERE WHAT IT READS IS OF BULK AT MOST 1048576: true; the input reads as it did. -/
def fnExactNumberOfPolyUptoRow : OpenClaim := { program := "ythklnfanbegecab", sum := "4163e18702bd2a8d2d47fbd6a89c591fd13f6ab824d100fc8eb0de78888bffc1", func := "loop.example/g01163/laws.FnExactNumberOfPoly", spec := "fnExactNumberOfPoly", unfollowed := true, recurses := true, apart := false, narrowed := true }
def FnExactNumberOfPolyUptoSaid : Prop := fnExactNumberOfPolyUptoRow.holds Try.pinned (OpenSpec.upto fnExactNumberOfPolySpec)

/-- 'laws.FnExactPlusPoly', WHERE WHAT IT READS IS OF BULK AT MOST 1048576: true; the input reads as it did. -/
def fnExactPlusPolyUptoRow : OpenClaim := { program := "ythklnfanbegecab", sum := "4163e18702bd2a8d2d47fbd6a89c591fd13f6ab824d100fc8eb0de78888bffc1", func := "loop.example/g01163/laws.FnExactPlusPoly", spec := "fnExactPlusPoly", unfollowed := true, recurses := true, apart := false, narrowed := true }
def FnExactPlusPolyUptoSaid : Prop := fnExactPlusPolyUptoRow.holds Try.pinned (OpenSpec.upto fnExactPlusPolySpec)

/-- 'laws.FnExactReducePoly', WHERE WHAT IT READS IS OF BULK AT MOST 1048576: true; the input reads as it did. -/
def fnExactReducePolyUptoRow : OpenClaim := { program := "ythklnfanbegecab", sum := "4163e18702bd2a8d2d47fbd6a89c591fd13f6ab824d100fc8eb0de78888bffc1", func := "loop.example/g01163/laws.FnExactReducePoly", spec := "fnExactReducePoly", unfollowed := true, recurses := true, apart := false, narrowed := true }
def FnExactReducePolyUptoSaid : Prop := fnExactReducePolyUptoRow.holds Try.pinned (OpenSpec.upto fnExactReducePolySpec)

/-- 'laws.FnExactTimesPoly', WHERE WHAT IT READS IS OF BULK AT MOST 1048576: true; the input reads as it did. -/
def fnExactTimesPolyUptoRow : OpenClaim := { program := "ythklnfanbegecab", sum := "4163e18702bd2a8d2d47fbd6a89c591fd13f6ab824d100fc8eb0de78888bffc1", func := "loop.example/g01163/laws.FnExactTimesPoly", spec := "fnExactTimesPoly", unfollowed := true, recurses := true, apart := false, narrowed := true }
def FnExactTimesPolyUptoSaid : Prop := fnExactTimesPolyUptoRow.holds Try.pinned (OpenSpec.upto fnExactTimesPolySpec)

/-- 'laws.FnExactPolyOf', WHERE WHAT IT READS IS OF BULK AT MOST 1048576: true; the input reads as it did. -/
def fnExactPolyOfUptoRow : OpenClaim := { program := "ythklnfanbegecab", sum := "4163e18702bd2a8d2d47fbd6a89c591fd13f6ab824d100fc8eb0de78888bffc1", func := "loop.example/g01163/laws.FnExactPolyOf", spec := "fnExactPolyOf", unfollowed := true, recurses := true, apart := false, narrowed := true }
def FnExactPolyOfUptoSaid : Prop := fnExactPolyOfUptoRow.holds Try.pinned (OpenSpec.upto fnExactPolyOfSpec)

end Rows
end Go.Proofs.Ythklnfanbegecab
