/-
  No cell of these rows narrows 'for every input' (looked for: loops, veiled, ifaces, maps, wideKeys, modest, calm, conditions, laid).
  DERIVED. THE GIVEN ROWS OF THIS SEAT. 10 by the template 'for every input the law returns true; each argument reads behind the call as it read before'; 0 by the template 'total and deterministic' (their statements: YtommagdddleoiaaTotals.lean).
  GIVEN WITH THE SEED: the statements are not yours to turn. If you find one false, say at which input.
  Laid BY PROGRAM, IN A SANDBOX (cutbox-rows.mjs): the forced cells as the released guide's own fill.sh prints them over the translation 0241441006931fab… (all of the seat's roots in one cut). By AI agents, Wed Nov 11 2026. No macro, syntax, notation, axiom, sorry.
-/
import Derived.Test.YtommagdddleoiaaChecked
import GoSem.Claim
import GoSem.ClaimJoined
import GoSem.ClaimMapViews
import Derived.JoinedTies
import Derived.KernelRfl
namespace Go.Proofs.Ytommagdddleoiaa
/- THE CELL 'sum', in the pinned program and in every row, IS THE sha256 OF THE DUMP (.gsa) THAT YtommagdddleoiaaProg.lean LOADS. Nothing in Lean hashes anything: it is a label: what it is worth is what the hold of that sum in a sandbox is worth. -/
noncomputable def Try.pinned : Pinned := { name := "ytommagdddleoiaa", sum := "0241441006931faba89ff062f360615bf22f265e7e816e78f8b34d7bca73d10d", checked := Try.checked }
namespace Rows
def none {H : Type} : Left H := { results := [], args := [] }

/-- 'laws.FnExactDoesPermute': WHATEVER THE INPUT: true; the input reads as it did. -/
def fnExactDoesPermuteSpec : ChangeSpec := { name := "fnExactDoesPermute", fn := fun _ => fun
  | [d1, d2] => { results := [.lit (.bool true)], args := [d1, d2] }
  | _ => none }
def fnExactDoesPermuteRow : OpenClaim := { program := "ytommagdddleoiaa", sum := "0241441006931faba89ff062f360615bf22f265e7e816e78f8b34d7bca73d10d", func := "loop.example/g01163/laws.FnExactDoesPermute", spec := "fnExactDoesPermute", inPlace := ["maps.clone"], unfollowed := true, recurses := true, apart := false }
def FnExactDoesPermuteSaid : Prop := fnExactDoesPermuteRow.holds Try.pinned (OpenSpec.ofChange fnExactDoesPermuteSpec)

/-- ITS FALSE NEIGHBOUR: 'it returns false'. Refute it at one input. -/
def fnExactDoesPermuteWrong : ChangeSpec := { name := "fnExactDoesPermute", fn := fun _ => fun
  | [d1, d2] => { results := [.lit (.bool false)], args := [d1, d2] }
  | _ => none }
def FnExactDoesPermuteWrongFalsely : Prop := fnExactDoesPermuteRow.holds Try.pinned (OpenSpec.ofChange fnExactDoesPermuteWrong)

/-- 'laws.FnExactFirstClash': WHATEVER THE INPUT: true; the input reads as it did. -/
def fnExactFirstClashSpec : ChangeSpec := { name := "fnExactFirstClash", fn := fun _ => fun
  | [d1, d2] => { results := [.lit (.bool true)], args := [d1, d2] }
  | _ => none }
def fnExactFirstClashRow : OpenClaim := { program := "ytommagdddleoiaa", sum := "0241441006931faba89ff062f360615bf22f265e7e816e78f8b34d7bca73d10d", func := "loop.example/g01163/laws.FnExactFirstClash", spec := "fnExactFirstClash", unfollowed := true, recurses := true, apart := false }
def FnExactFirstClashSaid : Prop := fnExactFirstClashRow.holds Try.pinned (OpenSpec.ofChange fnExactFirstClashSpec)

/-- ITS FALSE NEIGHBOUR: 'it returns false'. Refute it at one input. -/
def fnExactFirstClashWrong : ChangeSpec := { name := "fnExactFirstClash", fn := fun _ => fun
  | [d1, d2] => { results := [.lit (.bool false)], args := [d1, d2] }
  | _ => none }
def FnExactFirstClashWrongFalsely : Prop := fnExactFirstClashRow.holds Try.pinned (OpenSpec.ofChange fnExactFirstClashWrong)

/-- 'laws.FnExactPowerSumOf': WHATEVER THE INPUT: true; the input reads as it did. -/
def fnExactPowerSumOfSpec : ChangeSpec := { name := "fnExactPowerSumOf", fn := fun _ => fun
  | [d1, d2, d3] => { results := [.lit (.bool true)], args := [d1, d2, d3] }
  | _ => none }
def fnExactPowerSumOfRow : OpenClaim := { program := "ytommagdddleoiaa", sum := "0241441006931faba89ff062f360615bf22f265e7e816e78f8b34d7bca73d10d", func := "loop.example/g01163/laws.FnExactPowerSumOf", spec := "fnExactPowerSumOf", unfollowed := true, recurses := true, apart := false }
def FnExactPowerSumOfSaid : Prop := fnExactPowerSumOfRow.holds Try.pinned (OpenSpec.ofChange fnExactPowerSumOfSpec)

/-- ITS FALSE NEIGHBOUR: 'it returns false'. Refute it at one input. -/
def fnExactPowerSumOfWrong : ChangeSpec := { name := "fnExactPowerSumOf", fn := fun _ => fun
  | [d1, d2, d3] => { results := [.lit (.bool false)], args := [d1, d2, d3] }
  | _ => none }
def FnExactPowerSumOfWrongFalsely : Prop := fnExactPowerSumOfRow.holds Try.pinned (OpenSpec.ofChange fnExactPowerSumOfWrong)

/-- 'laws.FnExactByPowerSums': WHATEVER THE INPUT: true; the input reads as it did. -/
def fnExactByPowerSumsSpec : ChangeSpec := { name := "fnExactByPowerSums", fn := fun _ => fun
  | [d1, d2] => { results := [.lit (.bool true)], args := [d1, d2] }
  | _ => none }
def fnExactByPowerSumsRow : OpenClaim := { program := "ytommagdddleoiaa", sum := "0241441006931faba89ff062f360615bf22f265e7e816e78f8b34d7bca73d10d", func := "loop.example/g01163/laws.FnExactByPowerSums", spec := "fnExactByPowerSums", unfollowed := true, recurses := true, apart := false }
def FnExactByPowerSumsSaid : Prop := fnExactByPowerSumsRow.holds Try.pinned (OpenSpec.ofChange fnExactByPowerSumsSpec)

/-- ITS FALSE NEIGHBOUR: 'it returns false'. Refute it at one input. -/
def fnExactByPowerSumsWrong : ChangeSpec := { name := "fnExactByPowerSums", fn := fun _ => fun
  | [d1, d2] => { results := [.lit (.bool false)], args := [d1, d2] }
  | _ => none }
def FnExactByPowerSumsWrongFalsely : Prop := fnExactByPowerSumsRow.holds Try.pinned (OpenSpec.ofChange fnExactByPowerSumsWrong)

/-- 'laws.FnExactFixedOf': WHATEVER THE INPUT: true; the input reads as it did. -/
def fnExactFixedOfSpec : ChangeSpec := { name := "fnExactFixedOf", fn := fun _ => fun
  | [d1, d2] => { results := [.lit (.bool true)], args := [d1, d2] }
  | _ => none }
def fnExactFixedOfRow : OpenClaim := { program := "ytommagdddleoiaa", sum := "0241441006931faba89ff062f360615bf22f265e7e816e78f8b34d7bca73d10d", func := "loop.example/g01163/laws.FnExactFixedOf", spec := "fnExactFixedOf", unfollowed := true, recurses := true, apart := false }
def FnExactFixedOfSaid : Prop := fnExactFixedOfRow.holds Try.pinned (OpenSpec.ofChange fnExactFixedOfSpec)

/-- ITS FALSE NEIGHBOUR: 'it returns false'. Refute it at one input. -/
def fnExactFixedOfWrong : ChangeSpec := { name := "fnExactFixedOf", fn := fun _ => fun
  | [d1, d2] => { results := [.lit (.bool false)], args := [d1, d2] }
  | _ => none }
def FnExactFixedOfWrongFalsely : Prop := fnExactFixedOfRow.holds Try.pinned (OpenSpec.ofChange fnExactFixedOfWrong)

/-- 'laws.FnExactNormalOf': WHATEVER THE INPUT: true; the input reads as it did. -/
def fnExactNormalOfSpec : ChangeSpec := { name := "fnExactNormalOf", fn := fun _ => fun
  | [d1, d2] => { results := [.lit (.bool true)], args := [d1, d2] }
  | _ => none }
def fnExactNormalOfRow : OpenClaim := { program := "ytommagdddleoiaa", sum := "0241441006931faba89ff062f360615bf22f265e7e816e78f8b34d7bca73d10d", func := "loop.example/g01163/laws.FnExactNormalOf", spec := "fnExactNormalOf", unfollowed := true, recurses := true, apart := false }
def FnExactNormalOfSaid : Prop := fnExactNormalOfRow.holds Try.pinned (OpenSpec.ofChange fnExactNormalOfSpec)

/-- ITS FALSE NEIGHBOUR: 'it returns false'. Refute it at one input. -/
def fnExactNormalOfWrong : ChangeSpec := { name := "fnExactNormalOf", fn := fun _ => fun
  | [d1, d2] => { results := [.lit (.bool false)], args := [d1, d2] }
  | _ => none }
def FnExactNormalOfWrongFalsely : Prop := fnExactNormalOfRow.holds Try.pinned (OpenSpec.ofChange fnExactNormalOfWrong)

/-- 'laws.FnExactIsNormal': WHATEVER THE INPUT: true; the input reads as it did. -/
def fnExactIsNormalSpec : ChangeSpec := { name := "fnExactIsNormal", fn := fun _ => fun
  | [d1, d2] => { results := [.lit (.bool true)], args := [d1, d2] }
  | _ => none }
def fnExactIsNormalRow : OpenClaim := { program := "ytommagdddleoiaa", sum := "0241441006931faba89ff062f360615bf22f265e7e816e78f8b34d7bca73d10d", func := "loop.example/g01163/laws.FnExactIsNormal", spec := "fnExactIsNormal", unfollowed := true, recurses := true, apart := false }
def FnExactIsNormalSaid : Prop := fnExactIsNormalRow.holds Try.pinned (OpenSpec.ofChange fnExactIsNormalSpec)

/-- ITS FALSE NEIGHBOUR: 'it returns false'. Refute it at one input. -/
def fnExactIsNormalWrong : ChangeSpec := { name := "fnExactIsNormal", fn := fun _ => fun
  | [d1, d2] => { results := [.lit (.bool false)], args := [d1, d2] }
  | _ => none }
def FnExactIsNormalWrongFalsely : Prop := fnExactIsNormalRow.holds Try.pinned (OpenSpec.ofChange fnExactIsNormalWrong)

/-- 'laws.FnExactGreatestDegree': WHATEVER THE INPUT: true; the input reads as it did. -/
def fnExactGreatestDegreeSpec : ChangeSpec := { name := "fnExactGreatestDegree", fn := fun _ => fun
  | [d] => { results := [.lit (.bool true)], args := [d] }
  | _ => none }
def fnExactGreatestDegreeRow : OpenClaim := { program := "ytommagdddleoiaa", sum := "0241441006931faba89ff062f360615bf22f265e7e816e78f8b34d7bca73d10d", func := "loop.example/g01163/laws.FnExactGreatestDegree", spec := "fnExactGreatestDegree", apart := false }
def FnExactGreatestDegreeSaid : Prop := fnExactGreatestDegreeRow.holds Try.pinned (OpenSpec.ofChange fnExactGreatestDegreeSpec)

/-- ITS FALSE NEIGHBOUR: 'it returns false'. Refute it at one input. -/
def fnExactGreatestDegreeWrong : ChangeSpec := { name := "fnExactGreatestDegree", fn := fun _ => fun
  | [d] => { results := [.lit (.bool false)], args := [d] }
  | _ => none }
def FnExactGreatestDegreeWrongFalsely : Prop := fnExactGreatestDegreeRow.holds Try.pinned (OpenSpec.ofChange fnExactGreatestDegreeWrong)

/-- 'laws.FnExactSwapPoly': WHATEVER THE INPUT: true; the input reads as it did. -/
def fnExactSwapPolySpec : ChangeSpec := { name := "fnExactSwapPoly", fn := fun _ => fun
  | [d1, d2, d3] => { results := [.lit (.bool true)], args := [d1, d2, d3] }
  | _ => none }
def fnExactSwapPolyRow : OpenClaim := { program := "ytommagdddleoiaa", sum := "0241441006931faba89ff062f360615bf22f265e7e816e78f8b34d7bca73d10d", func := "loop.example/g01163/laws.FnExactSwapPoly", spec := "fnExactSwapPoly", unfollowed := true, recurses := true, apart := false }
def FnExactSwapPolySaid : Prop := fnExactSwapPolyRow.holds Try.pinned (OpenSpec.ofChange fnExactSwapPolySpec)

/-- ITS FALSE NEIGHBOUR: 'it returns false'. Refute it at one input. -/
def fnExactSwapPolyWrong : ChangeSpec := { name := "fnExactSwapPoly", fn := fun _ => fun
  | [d1, d2, d3] => { results := [.lit (.bool false)], args := [d1, d2, d3] }
  | _ => none }
def FnExactSwapPolyWrongFalsely : Prop := fnExactSwapPolyRow.holds Try.pinned (OpenSpec.ofChange fnExactSwapPolyWrong)

/-- 'laws.FnExactPolyOfCycle': WHATEVER THE INPUT: true; the input reads as it did. -/
def fnExactPolyOfCycleSpec : ChangeSpec := { name := "fnExactPolyOfCycle", fn := fun _ => fun
  | [d1, d2] => { results := [.lit (.bool true)], args := [d1, d2] }
  | _ => none }
def fnExactPolyOfCycleRow : OpenClaim := { program := "ytommagdddleoiaa", sum := "0241441006931faba89ff062f360615bf22f265e7e816e78f8b34d7bca73d10d", func := "loop.example/g01163/laws.FnExactPolyOfCycle", spec := "fnExactPolyOfCycle", unfollowed := true, recurses := true, apart := false }
def FnExactPolyOfCycleSaid : Prop := fnExactPolyOfCycleRow.holds Try.pinned (OpenSpec.ofChange fnExactPolyOfCycleSpec)

/-- ITS FALSE NEIGHBOUR: 'it returns false'. Refute it at one input. -/
def fnExactPolyOfCycleWrong : ChangeSpec := { name := "fnExactPolyOfCycle", fn := fun _ => fun
  | [d1, d2] => { results := [.lit (.bool false)], args := [d1, d2] }
  | _ => none }
def FnExactPolyOfCycleWrongFalsely : Prop := fnExactPolyOfCycleRow.holds Try.pinned (OpenSpec.ofChange fnExactPolyOfCycleWrong)

/- THE SECOND FORM. 'bulk': how many values and letters a reading holds, each counted each time it is reached (what is shared counts as often as it is met; a slice's spare places count too). A statement '..UptoSaid' is the law's where the arguments, and the package variables that the reading takes, are together of bulk at most 1048576: NARROWER than '..Said'. Prove '..Said' where nothing that the law and all that it calls make is longer than what came in: it says more and counts as full. Else prove '..UptoSaid'. A law counts once. -/
mutual
def uptoBulk {H : Type} : DataW H → Nat
  | .lit (.string bytes) => bytes.length + 1
  | .lit _ => 1
  | .nil => 1
  | .ptr d => uptoBulk d + 1
  | .slice elems spare => uptoBulkAll elems + uptoBulkAll spare + 1
  | .agg parts => uptoBulkAll parts + 1
  | .iface _ d => uptoBulk d + 1
  | .map entries => uptoBulkEntries entries + 1
  | .held _ => 1
def uptoBulkAll {H : Type} : List (DataW H) → Nat
  | [] => 0
  | d :: r => uptoBulk d + uptoBulkAll r
def uptoBulkEntries {H : Type} : List (Lit × DataW H) → Nat
  | [] => 0
  | x :: r => uptoBulkEntry x + uptoBulkEntries r
def uptoBulkEntry {H : Type} : Lit × DataW H → Nat
  | (.string bytes, d) => bytes.length + uptoBulk d + 1
  | (_, d) => uptoBulk d + 1
 end
def uptoSmall : (H : Type) → List (DataW H) → Bool := fun _ ds => decide (uptoBulkAll ds ≤ 1048576)
def OpenSpec.upto (s : _root_.Go.ChangeSpec) : _root_.Go.OpenSpec := { _root_.Go.OpenSpec.ofChange s with cond := some uptoSmall }

/-- 'laws.FnExactDoesPermute', WHERE WHAT IT READS IS OF BULK AT MOST 1048576: true; the input reads as it did. -/
def fnExactDoesPermuteUptoRow : OpenClaim := { program := "ytommagdddleoiaa", sum := "0241441006931faba89ff062f360615bf22f265e7e816e78f8b34d7bca73d10d", func := "loop.example/g01163/laws.FnExactDoesPermute", spec := "fnExactDoesPermute", inPlace := ["maps.clone"], unfollowed := true, recurses := true, apart := false, narrowed := true }
def FnExactDoesPermuteUptoSaid : Prop := fnExactDoesPermuteUptoRow.holds Try.pinned (OpenSpec.upto fnExactDoesPermuteSpec)

/-- 'laws.FnExactFirstClash', WHERE WHAT IT READS IS OF BULK AT MOST 1048576: true; the input reads as it did. -/
def fnExactFirstClashUptoRow : OpenClaim := { program := "ytommagdddleoiaa", sum := "0241441006931faba89ff062f360615bf22f265e7e816e78f8b34d7bca73d10d", func := "loop.example/g01163/laws.FnExactFirstClash", spec := "fnExactFirstClash", unfollowed := true, recurses := true, apart := false, narrowed := true }
def FnExactFirstClashUptoSaid : Prop := fnExactFirstClashUptoRow.holds Try.pinned (OpenSpec.upto fnExactFirstClashSpec)

/-- 'laws.FnExactPowerSumOf', WHERE WHAT IT READS IS OF BULK AT MOST 1048576: true; the input reads as it did. -/
def fnExactPowerSumOfUptoRow : OpenClaim := { program := "ytommagdddleoiaa", sum := "0241441006931faba89ff062f360615bf22f265e7e816e78f8b34d7bca73d10d", func := "loop.example/g01163/laws.FnExactPowerSumOf", spec := "fnExactPowerSumOf", unfollowed := true, recurses := true, apart := false, narrowed := true }
def FnExactPowerSumOfUptoSaid : Prop := fnExactPowerSumOfUptoRow.holds Try.pinned (OpenSpec.upto fnExactPowerSumOfSpec)

/-- 'laws.FnExactByPowerSums', WHERE WHAT IT READS IS OF BULK AT MOST 1048576: true; the input reads as it did. -/
def fnExactByPowerSumsUptoRow : OpenClaim := { program := "ytommagdddleoiaa", sum := "0241441006931faba89ff062f360615bf22f265e7e816e78f8b34d7bca73d10d", func := "loop.example/g01163/laws.FnExactByPowerSums", spec := "fnExactByPowerSums", unfollowed := true, recurses := true, apart := false, narrowed := true }
def FnExactByPowerSumsUptoSaid : Prop := fnExactByPowerSumsUptoRow.holds Try.pinned (OpenSpec.upto fnExactByPowerSumsSpec)

/-- 'laws.FnExactFixedOf', WHERE WHAT IT READS IS OF BULK AT MOST 1048576: true; the input reads as it did. -/
def fnExactFixedOfUptoRow : OpenClaim := { program := "ytommagdddleoiaa", sum := "0241441006931faba89ff062f360615bf22f265e7e816e78f8b34d7bca73d10d", func := "loop.example/g01163/laws.FnExactFixedOf", spec := "fnExactFixedOf", unfollowed := true, recurses := true, apart := false, narrowed := true }
def FnExactFixedOfUptoSaid : Prop := fnExactFixedOfUptoRow.holds Try.pinned (OpenSpec.upto fnExactFixedOfSpec)

/-- 'laws.FnExactNormalOf', WHERE WHAT IT READS IS OF BULK AT MOST 1048576: true; the input reads as it did. -/
def fnExactNormalOfUptoRow : OpenClaim := { program := "ytommagdddleoiaa", sum := "0241441006931faba89ff062f360615bf22f265e7e816e78f8b34d7bca73d10d", func := "loop.example/g01163/laws.FnExactNormalOf", spec := "fnExactNormalOf", unfollowed := true, recurses := true, apart := false, narrowed := true }
def FnExactNormalOfUptoSaid : Prop := fnExactNormalOfUptoRow.holds Try.pinned (OpenSpec.upto fnExactNormalOfSpec)

/-- 'laws.FnExactIsNormal', WHERE WHAT IT READS IS OF BULK AT MOST 1048576: true; the input reads as it did. -/
def fnExactIsNormalUptoRow : OpenClaim := { program := "ytommagdddleoiaa", sum := "0241441006931faba89ff062f360615bf22f265e7e816e78f8b34d7bca73d10d", func := "loop.example/g01163/laws.FnExactIsNormal", spec := "fnExactIsNormal", unfollowed := true, recurses := true, apart := false, narrowed := true }
def FnExactIsNormalUptoSaid : Prop := fnExactIsNormalUptoRow.holds Try.pinned (OpenSpec.upto fnExactIsNormalSpec)

/-- 'laws.FnExactGreatestDegree', WHERE WHAT IT READS IS OF BULK AT MOST 1048576: true; the input reads as it did. -/
def fnExactGreatestDegreeUptoRow : OpenClaim := { program := "ytommagdddleoiaa", sum := "0241441006931faba89ff062f360615bf22f265e7e816e78f8b34d7bca73d10d", func := "loop.example/g01163/laws.FnExactGreatestDegree", spec := "fnExactGreatestDegree", apart := false, narrowed := true }
def FnExactGreatestDegreeUptoSaid : Prop := fnExactGreatestDegreeUptoRow.holds Try.pinned (OpenSpec.upto fnExactGreatestDegreeSpec)

/-- 'laws.FnExactSwapPoly', WHERE WHAT IT READS IS OF BULK AT MOST 1048576: true; the input reads as it did. -/
def fnExactSwapPolyUptoRow : OpenClaim := { program := "ytommagdddleoiaa", sum := "0241441006931faba89ff062f360615bf22f265e7e816e78f8b34d7bca73d10d", func := "loop.example/g01163/laws.FnExactSwapPoly", spec := "fnExactSwapPoly", unfollowed := true, recurses := true, apart := false, narrowed := true }
def FnExactSwapPolyUptoSaid : Prop := fnExactSwapPolyUptoRow.holds Try.pinned (OpenSpec.upto fnExactSwapPolySpec)

/-- 'laws.FnExactPolyOfCycle', WHERE WHAT IT READS IS OF BULK AT MOST 1048576: true; the input reads as it did. -/
def fnExactPolyOfCycleUptoRow : OpenClaim := { program := "ytommagdddleoiaa", sum := "0241441006931faba89ff062f360615bf22f265e7e816e78f8b34d7bca73d10d", func := "loop.example/g01163/laws.FnExactPolyOfCycle", spec := "fnExactPolyOfCycle", unfollowed := true, recurses := true, apart := false, narrowed := true }
def FnExactPolyOfCycleUptoSaid : Prop := fnExactPolyOfCycleUptoRow.holds Try.pinned (OpenSpec.upto fnExactPolyOfCycleSpec)

end Rows
end Go.Proofs.Ytommagdddleoiaa
