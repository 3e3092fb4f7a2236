/-
  No cell of these rows narrows 'for every input' (looked for: loops, veiled, ifaces, maps, wideKeys, modest, calm, conditions, laid).
  DERIVED. THE GIVEN ROWS OF THIS SEAT. 10 by the template 'for every input the law returns true; each argument reads behind the call as it read before'; 0 by the template 'total and deterministic' (their statements: YtiefbhkigngegaaTotals.lean).
  GIVEN WITH THE SEED: the statements are not yours to turn. If you find one false, say at which input.
  Laid BY PROGRAM, IN A SANDBOX (cutbox-rows.mjs): the forced cells as the released guide's own fill.sh prints them over the translation 7792d8267e92ede1… (all of the seat's roots in one cut). By AI agents, Wed Nov 11 2026. No macro, syntax, notation, axiom, sorry.
-/
import Derived.Test.YtiefbhkigngegaaChecked
import GoSem.Claim
import GoSem.ClaimJoined
import GoSem.ClaimMapViews
import Derived.JoinedTies
import Derived.KernelRfl
namespace Go.Proofs.Ytiefbhkigngegaa
/- THE CELL 'sum', in the pinned program and in every row, IS THE sha256 OF THE DUMP (.gsa) THAT YtiefbhkigngegaaProg.lean LOADS. Nothing in Lean hashes anything: it is a label: what it is worth is what the hold of that sum in a sandbox is worth. -/
noncomputable def Try.pinned : Pinned := { name := "ytiefbhkigngegaa", sum := "7792d8267e92ede1501396eb50c337a811834d4131e0e3836410e43696620f94", checked := Try.checked }
namespace Rows
def none {H : Type} : Left H := { results := [], args := [] }

/-- 'laws.FnExactDicksonOf': WHATEVER THE INPUT: true; the input reads as it did. -/
def fnExactDicksonOfSpec : ChangeSpec := { name := "fnExactDicksonOf", fn := fun _ => fun
  | [d1, d2, d3] => { results := [.lit (.bool true)], args := [d1, d2, d3] }
  | _ => none }
def fnExactDicksonOfRow : OpenClaim := { program := "ytiefbhkigngegaa", sum := "7792d8267e92ede1501396eb50c337a811834d4131e0e3836410e43696620f94", func := "loop.example/g01163/laws.FnExactDicksonOf", spec := "fnExactDicksonOf", unfollowed := true, recurses := true, apart := false }
def FnExactDicksonOfSaid : Prop := fnExactDicksonOfRow.holds Try.pinned (OpenSpec.ofChange fnExactDicksonOfSpec)

/-- ITS FALSE NEIGHBOUR: 'it returns false'. Refute it at one input. -/
def fnExactDicksonOfWrong : ChangeSpec := { name := "fnExactDicksonOf", fn := fun _ => fun
  | [d1, d2, d3] => { results := [.lit (.bool false)], args := [d1, d2, d3] }
  | _ => none }
def FnExactDicksonOfWrongFalsely : Prop := fnExactDicksonOfRow.holds Try.pinned (OpenSpec.ofChange fnExactDicksonOfWrong)

/-- 'laws.FnExactJoinDickson': WHATEVER THE INPUT: true; the input reads as it did. -/
def fnExactJoinDicksonSpec : ChangeSpec := { name := "fnExactJoinDickson", fn := fun _ => fun
  | [d1, d2, d3, d4] => { results := [.lit (.bool true)], args := [d1, d2, d3, d4] }
  | _ => none }
def fnExactJoinDicksonRow : OpenClaim := { program := "ytiefbhkigngegaa", sum := "7792d8267e92ede1501396eb50c337a811834d4131e0e3836410e43696620f94", func := "loop.example/g01163/laws.FnExactJoinDickson", spec := "fnExactJoinDickson", unfollowed := true, recurses := true, apart := false }
def FnExactJoinDicksonSaid : Prop := fnExactJoinDicksonRow.holds Try.pinned (OpenSpec.ofChange fnExactJoinDicksonSpec)

/-- ITS FALSE NEIGHBOUR: 'it returns false'. Refute it at one input. -/
def fnExactJoinDicksonWrong : ChangeSpec := { name := "fnExactJoinDickson", fn := fun _ => fun
  | [d1, d2, d3, d4] => { results := [.lit (.bool false)], args := [d1, d2, d3, d4] }
  | _ => none }
def FnExactJoinDicksonWrongFalsely : Prop := fnExactJoinDicksonRow.holds Try.pinned (OpenSpec.ofChange fnExactJoinDicksonWrong)

/-- 'laws.FnExactDicksonAt': WHATEVER THE INPUT: true; the input reads as it did. -/
def fnExactDicksonAtSpec : ChangeSpec := { name := "fnExactDicksonAt", fn := fun _ => fun
  | [d1, d2, d3, d4] => { results := [.lit (.bool true)], args := [d1, d2, d3, d4] }
  | _ => none }
def fnExactDicksonAtRow : OpenClaim := { program := "ytiefbhkigngegaa", sum := "7792d8267e92ede1501396eb50c337a811834d4131e0e3836410e43696620f94", func := "loop.example/g01163/laws.FnExactDicksonAt", spec := "fnExactDicksonAt", apart := false }
def FnExactDicksonAtSaid : Prop := fnExactDicksonAtRow.holds Try.pinned (OpenSpec.ofChange fnExactDicksonAtSpec)

/-- ITS FALSE NEIGHBOUR: 'it returns false'. Refute it at one input. -/
def fnExactDicksonAtWrong : ChangeSpec := { name := "fnExactDicksonAt", fn := fun _ => fun
  | [d1, d2, d3, d4] => { results := [.lit (.bool false)], args := [d1, d2, d3, d4] }
  | _ => none }
def FnExactDicksonAtWrongFalsely : Prop := fnExactDicksonAtRow.holds Try.pinned (OpenSpec.ofChange fnExactDicksonAtWrong)

/-- 'laws.FnExactDicksonPermutes': WHATEVER THE INPUT: true; the input reads as it did. -/
def fnExactDicksonPermutesSpec : ChangeSpec := { name := "fnExactDicksonPermutes", fn := fun _ => fun
  | [d1, d2, d3] => { results := [.lit (.bool true)], args := [d1, d2, d3] }
  | _ => none }
def fnExactDicksonPermutesRow : OpenClaim := { program := "ytiefbhkigngegaa", sum := "7792d8267e92ede1501396eb50c337a811834d4131e0e3836410e43696620f94", func := "loop.example/g01163/laws.FnExactDicksonPermutes", spec := "fnExactDicksonPermutes", unfollowed := true, recurses := true, apart := false }
def FnExactDicksonPermutesSaid : Prop := fnExactDicksonPermutesRow.holds Try.pinned (OpenSpec.ofChange fnExactDicksonPermutesSpec)

/-- ITS FALSE NEIGHBOUR: 'it returns false'. Refute it at one input. -/
def fnExactDicksonPermutesWrong : ChangeSpec := { name := "fnExactDicksonPermutes", fn := fun _ => fun
  | [d1, d2, d3] => { results := [.lit (.bool false)], args := [d1, d2, d3] }
  | _ => none }
def FnExactDicksonPermutesWrongFalsely : Prop := fnExactDicksonPermutesRow.holds Try.pinned (OpenSpec.ofChange fnExactDicksonPermutesWrong)

/-- 'laws.FnExactPowerOfX': WHATEVER THE INPUT: true; the input reads as it did. -/
def fnExactPowerOfXSpec : ChangeSpec := { name := "fnExactPowerOfX", fn := fun _ => fun
  | [d1, d2] => { results := [.lit (.bool true)], args := [d1, d2] }
  | _ => none }
def fnExactPowerOfXRow : OpenClaim := { program := "ytiefbhkigngegaa", sum := "7792d8267e92ede1501396eb50c337a811834d4131e0e3836410e43696620f94", func := "loop.example/g01163/laws.FnExactPowerOfX", spec := "fnExactPowerOfX", unfollowed := true, recurses := true, apart := false }
def FnExactPowerOfXSaid : Prop := fnExactPowerOfXRow.holds Try.pinned (OpenSpec.ofChange fnExactPowerOfXSpec)

/-- ITS FALSE NEIGHBOUR: 'it returns false'. Refute it at one input. -/
def fnExactPowerOfXWrong : ChangeSpec := { name := "fnExactPowerOfX", fn := fun _ => fun
  | [d1, d2] => { results := [.lit (.bool false)], args := [d1, d2] }
  | _ => none }
def FnExactPowerOfXWrongFalsely : Prop := fnExactPowerOfXRow.holds Try.pinned (OpenSpec.ofChange fnExactPowerOfXWrong)

/-- 'laws.FnExactPowerPermutes': WHATEVER THE INPUT: true; the input reads as it did. -/
def fnExactPowerPermutesSpec : ChangeSpec := { name := "fnExactPowerPermutes", fn := fun _ => fun
  | [d1, d2] => { results := [.lit (.bool true)], args := [d1, d2] }
  | _ => none }
def fnExactPowerPermutesRow : OpenClaim := { program := "ytiefbhkigngegaa", sum := "7792d8267e92ede1501396eb50c337a811834d4131e0e3836410e43696620f94", func := "loop.example/g01163/laws.FnExactPowerPermutes", spec := "fnExactPowerPermutes", unfollowed := true, recurses := true, apart := false }
def FnExactPowerPermutesSaid : Prop := fnExactPowerPermutesRow.holds Try.pinned (OpenSpec.ofChange fnExactPowerPermutesSpec)

/-- ITS FALSE NEIGHBOUR: 'it returns false'. Refute it at one input. -/
def fnExactPowerPermutesWrong : ChangeSpec := { name := "fnExactPowerPermutes", fn := fun _ => fun
  | [d1, d2] => { results := [.lit (.bool false)], args := [d1, d2] }
  | _ => none }
def FnExactPowerPermutesWrongFalsely : Prop := fnExactPowerPermutesRow.holds Try.pinned (OpenSpec.ofChange fnExactPowerPermutesWrong)

/-- 'laws.FnExactCountPermutingPowers': WHATEVER THE INPUT: true; the input reads as it did. -/
def fnExactCountPermutingPowersSpec : ChangeSpec := { name := "fnExactCountPermutingPowers", fn := fun _ => fun
  | [d] => { results := [.lit (.bool true)], args := [d] }
  | _ => none }
def fnExactCountPermutingPowersRow : OpenClaim := { program := "ytiefbhkigngegaa", sum := "7792d8267e92ede1501396eb50c337a811834d4131e0e3836410e43696620f94", func := "loop.example/g01163/laws.FnExactCountPermutingPowers", spec := "fnExactCountPermutingPowers", unfollowed := true, recurses := true, apart := false }
def FnExactCountPermutingPowersSaid : Prop := fnExactCountPermutingPowersRow.holds Try.pinned (OpenSpec.ofChange fnExactCountPermutingPowersSpec)

/-- ITS FALSE NEIGHBOUR: 'it returns false'. Refute it at one input. -/
def fnExactCountPermutingPowersWrong : ChangeSpec := { name := "fnExactCountPermutingPowers", fn := fun _ => fun
  | [d] => { results := [.lit (.bool false)], args := [d] }
  | _ => none }
def FnExactCountPermutingPowersWrongFalsely : Prop := fnExactCountPermutingPowersRow.holds Try.pinned (OpenSpec.ofChange fnExactCountPermutingPowersWrong)

/-- 'laws.FnExactRootsOfUnity': WHATEVER THE INPUT: true; the input reads as it did. -/
def fnExactRootsOfUnitySpec : ChangeSpec := { name := "fnExactRootsOfUnity", fn := fun _ => fun
  | [d1, d2] => { results := [.lit (.bool true)], args := [d1, d2] }
  | _ => none }
def fnExactRootsOfUnityRow : OpenClaim := { program := "ytiefbhkigngegaa", sum := "7792d8267e92ede1501396eb50c337a811834d4131e0e3836410e43696620f94", func := "loop.example/g01163/laws.FnExactRootsOfUnity", spec := "fnExactRootsOfUnity", unfollowed := true, recurses := true, apart := false }
def FnExactRootsOfUnitySaid : Prop := fnExactRootsOfUnityRow.holds Try.pinned (OpenSpec.ofChange fnExactRootsOfUnitySpec)

/-- ITS FALSE NEIGHBOUR: 'it returns false'. Refute it at one input. -/
def fnExactRootsOfUnityWrong : ChangeSpec := { name := "fnExactRootsOfUnity", fn := fun _ => fun
  | [d1, d2] => { results := [.lit (.bool false)], args := [d1, d2] }
  | _ => none }
def FnExactRootsOfUnityWrongFalsely : Prop := fnExactRootsOfUnityRow.holds Try.pinned (OpenSpec.ofChange fnExactRootsOfUnityWrong)

/-- 'laws.FnExactIndexedPoly': WHATEVER THE INPUT: true; the input reads as it did. -/
def fnExactIndexedPolySpec : ChangeSpec := { name := "fnExactIndexedPoly", fn := fun _ => fun
  | [d1, d2, d3, d4] => { results := [.lit (.bool true)], args := [d1, d2, d3, d4] }
  | _ => none }
def fnExactIndexedPolyRow : OpenClaim := { program := "ytiefbhkigngegaa", sum := "7792d8267e92ede1501396eb50c337a811834d4131e0e3836410e43696620f94", func := "loop.example/g01163/laws.FnExactIndexedPoly", spec := "fnExactIndexedPoly", unfollowed := true, recurses := true, apart := false }
def FnExactIndexedPolySaid : Prop := fnExactIndexedPolyRow.holds Try.pinned (OpenSpec.ofChange fnExactIndexedPolySpec)

/-- ITS FALSE NEIGHBOUR: 'it returns false'. Refute it at one input. -/
def fnExactIndexedPolyWrong : ChangeSpec := { name := "fnExactIndexedPoly", fn := fun _ => fun
  | [d1, d2, d3, d4] => { results := [.lit (.bool false)], args := [d1, d2, d3, d4] }
  | _ => none }
def FnExactIndexedPolyWrongFalsely : Prop := fnExactIndexedPolyRow.holds Try.pinned (OpenSpec.ofChange fnExactIndexedPolyWrong)

/-- 'laws.FnExactIndexedPermutes': WHATEVER THE INPUT: true; the input reads as it did. -/
def fnExactIndexedPermutesSpec : ChangeSpec := { name := "fnExactIndexedPermutes", fn := fun _ => fun
  | [d1, d2, d3, d4] => { results := [.lit (.bool true)], args := [d1, d2, d3, d4] }
  | _ => none }
def fnExactIndexedPermutesRow : OpenClaim := { program := "ytiefbhkigngegaa", sum := "7792d8267e92ede1501396eb50c337a811834d4131e0e3836410e43696620f94", func := "loop.example/g01163/laws.FnExactIndexedPermutes", spec := "fnExactIndexedPermutes", unfollowed := true, recurses := true, apart := false }
def FnExactIndexedPermutesSaid : Prop := fnExactIndexedPermutesRow.holds Try.pinned (OpenSpec.ofChange fnExactIndexedPermutesSpec)

/-- ITS FALSE NEIGHBOUR: 'it returns false'. Refute it at one input. -/
def fnExactIndexedPermutesWrong : ChangeSpec := { name := "fnExactIndexedPermutes", fn := fun _ => fun
  | [d1, d2, d3, d4] => { results := [.lit (.bool false)], args := [d1, d2, d3, d4] }
  | _ => none }
def FnExactIndexedPermutesWrongFalsely : Prop := fnExactIndexedPermutesRow.holds Try.pinned (OpenSpec.ofChange fnExactIndexedPermutesWrong)

/- THE SECOND FORM. 'bulk': how many values and letters a reading holds, each counted each time it is reached (what is shared counts as often as it is met; a slice's spare places count too). A statement '..UptoSaid' is the law's where the arguments, and the package variables that the reading takes, are together of bulk at most 1048576: NARROWER than '..Said'. Prove '..Said' where nothing that the law and all that it calls make is longer than what came in: it says more and counts as full. Else prove '..UptoSaid'. A law counts once. -/
mutual
def uptoBulk {H : Type} : DataW H → Nat
  | .lit (.string bytes) => bytes.length + 1
  | .lit _ => 1
  | .nil => 1
  | .ptr d => uptoBulk d + 1
  | .slice elems spare => uptoBulkAll elems + uptoBulkAll spare + 1
  | .agg parts => uptoBulkAll parts + 1
  | .iface _ d => uptoBulk d + 1
  | .map entries => uptoBulkEntries entries + 1
  | .held _ => 1
def uptoBulkAll {H : Type} : List (DataW H) → Nat
  | [] => 0
  | d :: r => uptoBulk d + uptoBulkAll r
def uptoBulkEntries {H : Type} : List (Lit × DataW H) → Nat
  | [] => 0
  | x :: r => uptoBulkEntry x + uptoBulkEntries r
def uptoBulkEntry {H : Type} : Lit × DataW H → Nat
  | (.string bytes, d) => bytes.length + uptoBulk d + 1
  | (_, d) => uptoBulk d + 1
 end
def uptoSmall : (H : Type) → List (DataW H) → Bool := fun _ ds => decide (uptoBulkAll ds ≤ 1048576)
def OpenSpec.upto (s : _root_.Go.ChangeSpec) : _root_.Go.OpenSpec := { _root_.Go.OpenSpec.ofChange s with cond := some uptoSmall }

/-- 'laws.FnExactDicksonOf', WHERE WHAT IT READS IS OF BULK AT MOST 1048576: true; the input reads as it did. -/
def fnExactDicksonOfUptoRow : OpenClaim := { program := "ytiefbhkigngegaa", sum := "7792d8267e92ede1501396eb50c337a811834d4131e0e3836410e43696620f94", func := "loop.example/g01163/laws.FnExactDicksonOf", spec := "fnExactDicksonOf", unfollowed := true, recurses := true, apart := false, narrowed := true }
def FnExactDicksonOfUptoSaid : Prop := fnExactDicksonOfUptoRow.holds Try.pinned (OpenSpec.upto fnExactDicksonOfSpec)

/-- 'laws.FnExactJoinDickson', WHERE WHAT IT READS IS OF BULK AT MOST 1048576: true; the input reads as it did. -/
def fnExactJoinDicksonUptoRow : OpenClaim := { program := "ytiefbhkigngegaa", sum := "7792d8267e92ede1501396eb50c337a811834d4131e0e3836410e43696620f94", func := "loop.example/g01163/laws.FnExactJoinDickson", spec := "fnExactJoinDickson", unfollowed := true, recurses := true, apart := false, narrowed := true }
def FnExactJoinDicksonUptoSaid : Prop := fnExactJoinDicksonUptoRow.holds Try.pinned (OpenSpec.upto fnExactJoinDicksonSpec)

/-- 'laws.FnExactDicksonAt', WHERE WHAT IT READS IS OF BULK AT MOST 1048576: true; the input reads as it did. -/
def fnExactDicksonAtUptoRow : OpenClaim := { program := "ytiefbhkigngegaa", sum := "7792d8267e92ede1501396eb50c337a811834d4131e0e3836410e43696620f94", func := "loop.example/g01163/laws.FnExactDicksonAt", spec := "fnExactDicksonAt", apart := false, narrowed := true }
def FnExactDicksonAtUptoSaid : Prop := fnExactDicksonAtUptoRow.holds Try.pinned (OpenSpec.upto fnExactDicksonAtSpec)

/-- 'laws.FnExactDicksonPermutes', WHERE WHAT IT READS IS OF BULK AT MOST 1048576: true; the input reads as it did. -/
def fnExactDicksonPermutesUptoRow : OpenClaim := { program := "ytiefbhkigngegaa", sum := "7792d8267e92ede1501396eb50c337a811834d4131e0e3836410e43696620f94", func := "loop.example/g01163/laws.FnExactDicksonPermutes", spec := "fnExactDicksonPermutes", unfollowed := true, recurses := true, apart := false, narrowed := true }
def FnExactDicksonPermutesUptoSaid : Prop := fnExactDicksonPermutesUptoRow.holds Try.pinned (OpenSpec.upto fnExactDicksonPermutesSpec)

/-- 'laws.FnExactPowerOfX', WHERE WHAT IT READS IS OF BULK AT MOST 1048576: true; the input reads as it did. -/
def fnExactPowerOfXUptoRow : OpenClaim := { program := "ytiefbhkigngegaa", sum := "7792d8267e92ede1501396eb50c337a811834d4131e0e3836410e43696620f94", func := "loop.example/g01163/laws.FnExactPowerOfX", spec := "fnExactPowerOfX", unfollowed := true, recurses := true, apart := false, narrowed := true }
def FnExactPowerOfXUptoSaid : Prop := fnExactPowerOfXUptoRow.holds Try.pinned (OpenSpec.upto fnExactPowerOfXSpec)

/-- 'laws.FnExactPowerPermutes', WHERE WHAT IT READS IS OF BULK AT MOST 1048576: true; the input reads as it did. -/
def fnExactPowerPermutesUptoRow : OpenClaim := { program := "ytiefbhkigngegaa", sum := "7792d8267e92ede1501396eb50c337a811834d4131e0e3836410e43696620f94", func := "loop.example/g01163/laws.FnExactPowerPermutes", spec := "fnExactPowerPermutes", unfollowed := true, recurses := true, apart := false, narrowed := true }
def FnExactPowerPermutesUptoSaid : Prop := fnExactPowerPermutesUptoRow.holds Try.pinned (OpenSpec.upto fnExactPowerPermutesSpec)

/-- 'laws.FnExactCountPermutingPowers', WHERE WHAT IT READS IS OF BULK AT MOST 1048576: true; the input reads as it did. -/
def fnExactCountPermutingPowersUptoRow : OpenClaim := { program := "ytiefbhkigngegaa", sum := "7792d8267e92ede1501396eb50c337a811834d4131e0e3836410e43696620f94", func := "loop.example/g01163/laws.FnExactCountPermutingPowers", spec := "fnExactCountPermutingPowers", unfollowed := true, recurses := true, apart := false, narrowed := true }
def FnExactCountPermutingPowersUptoSaid : Prop := fnExactCountPermutingPowersUptoRow.holds Try.pinned (OpenSpec.upto fnExactCountPermutingPowersSpec)

/-- 'laws.FnExactRootsOfUnity', WHERE WHAT IT READS IS OF BULK AT MOST 1048576: true; the input reads as it did. -/
def fnExactRootsOfUnityUptoRow : OpenClaim := { program := "ytiefbhkigngegaa", sum := "7792d8267e92ede1501396eb50c337a811834d4131e0e3836410e43696620f94", func := "loop.example/g01163/laws.FnExactRootsOfUnity", spec := "fnExactRootsOfUnity", unfollowed := true, recurses := true, apart := false, narrowed := true }
def FnExactRootsOfUnityUptoSaid : Prop := fnExactRootsOfUnityUptoRow.holds Try.pinned (OpenSpec.upto fnExactRootsOfUnitySpec)

/-- 'laws.FnExactIndexedPoly', WHERE WHAT IT READS IS OF BULK AT MOST 1048576: true; the input reads as it did. -/
def fnExactIndexedPolyUptoRow : OpenClaim := { program := "ytiefbhkigngegaa", sum := "7792d8267e92ede1501396eb50c337a811834d4131e0e3836410e43696620f94", func := "loop.example/g01163/laws.FnExactIndexedPoly", spec := "fnExactIndexedPoly", unfollowed := true, recurses := true, apart := false, narrowed := true }
def FnExactIndexedPolyUptoSaid : Prop := fnExactIndexedPolyUptoRow.holds Try.pinned (OpenSpec.upto fnExactIndexedPolySpec)

/-- 'laws.FnExactIndexedPermutes', WHERE WHAT IT READS IS OF BULK AT MOST 1048576: true; the input reads as it did. -/
def fnExactIndexedPermutesUptoRow : OpenClaim := { program := "ytiefbhkigngegaa", sum := "7792d8267e92ede1501396eb50c337a811834d4131e0e3836410e43696620f94", func := "loop.example/g01163/laws.FnExactIndexedPermutes", spec := "fnExactIndexedPermutes", unfollowed := true, recurses := true, apart := false, narrowed := true }
def FnExactIndexedPermutesUptoSaid : Prop := fnExactIndexedPermutesUptoRow.holds Try.pinned (OpenSpec.upto fnExactIndexedPermutesSpec)

end Rows
end Go.Proofs.Ytiefbhkigngegaa
