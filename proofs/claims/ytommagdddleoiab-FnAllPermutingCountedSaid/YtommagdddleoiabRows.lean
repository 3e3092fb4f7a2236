/-
  No cell of these rows narrows 'for every input' (looked for: loops, veiled, ifaces, maps, wideKeys, modest, calm, conditions, laid).
  DERIVED. THE GIVEN ROWS OF THIS SEAT. 8 by the template 'for every input the law returns true; each argument reads behind the call as it read before'; 0 by the template 'total and deterministic' (their statements: YtommagdddleoiabTotals.lean).
  GIVEN WITH THE SEED: the statements are not yours to turn. If you find one false, say at which input.
  Laid BY PROGRAM, IN A SANDBOX (cutbox-rows.mjs): the forced cells as the released guide's own fill.sh prints them over the translation f994efb631fde8f8… (all of the seat's roots in one cut). By AI agents, Wed Nov 11 2026. No macro, syntax, notation, axiom, sorry.
-/
import Derived.Test.YtommagdddleoiabChecked
import GoSem.Claim
import GoSem.ClaimJoined
import GoSem.ClaimMapViews
import Derived.JoinedTies
import Derived.KernelRfl
namespace Go.Proofs.Ytommagdddleoiab
/- THE CELL 'sum', in the pinned program and in every row, IS THE sha256 OF THE DUMP (.gsa) THAT YtommagdddleoiabProg.lean LOADS. Nothing in Lean hashes anything: it is a label: what it is worth is what the hold of that sum in a sandbox is worth. -/
noncomputable def Try.pinned : Pinned := { name := "ytommagdddleoiab", sum := "f994efb631fde8f89e783bdd855704f6cdb2e2c8d27f09618b691de49099c93b", checked := Try.checked }
namespace Rows
def none {H : Type} : Left H := { results := [], args := [] }

/-- 'laws.FnExactPolyWith': WHATEVER THE INPUT: true; the input reads as it did. -/
def fnExactPolyWithSpec : ChangeSpec := { name := "fnExactPolyWith", fn := fun _ => fun
  | [d1, d2] => { results := [.lit (.bool true)], args := [d1, d2] }
  | _ => none }
def fnExactPolyWithRow : OpenClaim := { program := "ytommagdddleoiab", sum := "f994efb631fde8f89e783bdd855704f6cdb2e2c8d27f09618b691de49099c93b", func := "loop.example/g01163/laws.FnExactPolyWith", spec := "fnExactPolyWith", apart := false }
def FnExactPolyWithSaid : Prop := fnExactPolyWithRow.holds Try.pinned (OpenSpec.ofChange fnExactPolyWithSpec)

/-- ITS FALSE NEIGHBOUR: 'it returns false'. Refute it at one input. -/
def fnExactPolyWithWrong : ChangeSpec := { name := "fnExactPolyWith", fn := fun _ => fun
  | [d1, d2] => { results := [.lit (.bool false)], args := [d1, d2] }
  | _ => none }
def FnExactPolyWithWrongFalsely : Prop := fnExactPolyWithRow.holds Try.pinned (OpenSpec.ofChange fnExactPolyWithWrong)

/-- 'laws.FnExactInversePoly': WHATEVER THE INPUT: true; the input reads as it did. -/
def fnExactInversePolySpec : ChangeSpec := { name := "fnExactInversePoly", fn := fun _ => fun
  | [d1, d2] => { results := [.lit (.bool true)], args := [d1, d2] }
  | _ => none }
def fnExactInversePolyRow : OpenClaim := { program := "ytommagdddleoiab", sum := "f994efb631fde8f89e783bdd855704f6cdb2e2c8d27f09618b691de49099c93b", func := "loop.example/g01163/laws.FnExactInversePoly", spec := "fnExactInversePoly", inPlace := ["maps.clone"], unfollowed := true, recurses := true, apart := false }
def FnExactInversePolySaid : Prop := fnExactInversePolyRow.holds Try.pinned (OpenSpec.ofChange fnExactInversePolySpec)

/-- ITS FALSE NEIGHBOUR: 'it returns false'. Refute it at one input. -/
def fnExactInversePolyWrong : ChangeSpec := { name := "fnExactInversePoly", fn := fun _ => fun
  | [d1, d2] => { results := [.lit (.bool false)], args := [d1, d2] }
  | _ => none }
def FnExactInversePolyWrongFalsely : Prop := fnExactInversePolyRow.holds Try.pinned (OpenSpec.ofChange fnExactInversePolyWrong)

/-- 'laws.FnExactCyclesOfPoly': WHATEVER THE INPUT: true; the input reads as it did. -/
def fnExactCyclesOfPolySpec : ChangeSpec := { name := "fnExactCyclesOfPoly", fn := fun _ => fun
  | [d1, d2] => { results := [.lit (.bool true)], args := [d1, d2] }
  | _ => none }
def fnExactCyclesOfPolyRow : OpenClaim := { program := "ytommagdddleoiab", sum := "f994efb631fde8f89e783bdd855704f6cdb2e2c8d27f09618b691de49099c93b", func := "loop.example/g01163/laws.FnExactCyclesOfPoly", spec := "fnExactCyclesOfPoly", inPlace := ["maps.clone"], unfollowed := true, recurses := true, apart := false }
def FnExactCyclesOfPolySaid : Prop := fnExactCyclesOfPolyRow.holds Try.pinned (OpenSpec.ofChange fnExactCyclesOfPolySpec)

/-- ITS FALSE NEIGHBOUR: 'it returns false'. Refute it at one input. -/
def fnExactCyclesOfPolyWrong : ChangeSpec := { name := "fnExactCyclesOfPoly", fn := fun _ => fun
  | [d1, d2] => { results := [.lit (.bool false)], args := [d1, d2] }
  | _ => none }
def FnExactCyclesOfPolyWrongFalsely : Prop := fnExactCyclesOfPolyRow.holds Try.pinned (OpenSpec.ofChange fnExactCyclesOfPolyWrong)

/-- 'laws.FnExactOrderOfPoly': WHATEVER THE INPUT: true; the input reads as it did. -/
def fnExactOrderOfPolySpec : ChangeSpec := { name := "fnExactOrderOfPoly", fn := fun _ => fun
  | [d1, d2] => { results := [.lit (.bool true)], args := [d1, d2] }
  | _ => none }
def fnExactOrderOfPolyRow : OpenClaim := { program := "ytommagdddleoiab", sum := "f994efb631fde8f89e783bdd855704f6cdb2e2c8d27f09618b691de49099c93b", func := "loop.example/g01163/laws.FnExactOrderOfPoly", spec := "fnExactOrderOfPoly", inPlace := ["maps.clone"], unfollowed := true, recurses := true, apart := false }
def FnExactOrderOfPolySaid : Prop := fnExactOrderOfPolyRow.holds Try.pinned (OpenSpec.ofChange fnExactOrderOfPolySpec)

/-- ITS FALSE NEIGHBOUR: 'it returns false'. Refute it at one input. -/
def fnExactOrderOfPolyWrong : ChangeSpec := { name := "fnExactOrderOfPoly", fn := fun _ => fun
  | [d1, d2] => { results := [.lit (.bool false)], args := [d1, d2] }
  | _ => none }
def FnExactOrderOfPolyWrongFalsely : Prop := fnExactOrderOfPolyRow.holds Try.pinned (OpenSpec.ofChange fnExactOrderOfPolyWrong)

/-- 'laws.FnExactSignOfPoly': WHATEVER THE INPUT: true; the input reads as it did. -/
def fnExactSignOfPolySpec : ChangeSpec := { name := "fnExactSignOfPoly", fn := fun _ => fun
  | [d1, d2] => { results := [.lit (.bool true)], args := [d1, d2] }
  | _ => none }
def fnExactSignOfPolyRow : OpenClaim := { program := "ytommagdddleoiab", sum := "f994efb631fde8f89e783bdd855704f6cdb2e2c8d27f09618b691de49099c93b", func := "loop.example/g01163/laws.FnExactSignOfPoly", spec := "fnExactSignOfPoly", inPlace := ["maps.clone"], unfollowed := true, recurses := true, apart := false }
def FnExactSignOfPolySaid : Prop := fnExactSignOfPolyRow.holds Try.pinned (OpenSpec.ofChange fnExactSignOfPolySpec)

/-- ITS FALSE NEIGHBOUR: 'it returns false'. Refute it at one input. -/
def fnExactSignOfPolyWrong : ChangeSpec := { name := "fnExactSignOfPoly", fn := fun _ => fun
  | [d1, d2] => { results := [.lit (.bool false)], args := [d1, d2] }
  | _ => none }
def FnExactSignOfPolyWrongFalsely : Prop := fnExactSignOfPolyRow.holds Try.pinned (OpenSpec.ofChange fnExactSignOfPolyWrong)

/-- 'laws.FnExactCountPermuting': WHATEVER THE INPUT: true; the input reads as it did. -/
def fnExactCountPermutingSpec : ChangeSpec := { name := "fnExactCountPermuting", fn := fun _ => fun
  | [d1, d2] => { results := [.lit (.bool true)], args := [d1, d2] }
  | _ => none }
def fnExactCountPermutingRow : OpenClaim := { program := "ytommagdddleoiab", sum := "f994efb631fde8f89e783bdd855704f6cdb2e2c8d27f09618b691de49099c93b", func := "loop.example/g01163/laws.FnExactCountPermuting", spec := "fnExactCountPermuting", inPlace := ["maps.clone"], unfollowed := true, recurses := true, apart := false }
def FnExactCountPermutingSaid : Prop := fnExactCountPermutingRow.holds Try.pinned (OpenSpec.ofChange fnExactCountPermutingSpec)

/-- ITS FALSE NEIGHBOUR: 'it returns false'. Refute it at one input. -/
def fnExactCountPermutingWrong : ChangeSpec := { name := "fnExactCountPermuting", fn := fun _ => fun
  | [d1, d2] => { results := [.lit (.bool false)], args := [d1, d2] }
  | _ => none }
def FnExactCountPermutingWrongFalsely : Prop := fnExactCountPermutingRow.holds Try.pinned (OpenSpec.ofChange fnExactCountPermutingWrong)

/-- 'laws.FnExactNormalWith': WHATEVER THE INPUT: true; the input reads as it did. -/
def fnExactNormalWithSpec : ChangeSpec := { name := "fnExactNormalWith", fn := fun _ => fun
  | [d1, d2] => { results := [.lit (.bool true)], args := [d1, d2] }
  | _ => none }
def fnExactNormalWithRow : OpenClaim := { program := "ytommagdddleoiab", sum := "f994efb631fde8f89e783bdd855704f6cdb2e2c8d27f09618b691de49099c93b", func := "loop.example/g01163/laws.FnExactNormalWith", spec := "fnExactNormalWith", inPlace := ["maps.clone"], unfollowed := true, recurses := true, apart := false }
def FnExactNormalWithSaid : Prop := fnExactNormalWithRow.holds Try.pinned (OpenSpec.ofChange fnExactNormalWithSpec)

/-- ITS FALSE NEIGHBOUR: 'it returns false'. Refute it at one input. -/
def fnExactNormalWithWrong : ChangeSpec := { name := "fnExactNormalWith", fn := fun _ => fun
  | [d1, d2] => { results := [.lit (.bool false)], args := [d1, d2] }
  | _ => none }
def FnExactNormalWithWrongFalsely : Prop := fnExactNormalWithRow.holds Try.pinned (OpenSpec.ofChange fnExactNormalWithWrong)

/-- 'laws.FnAllPermutingCounted': WHATEVER THE INPUT: true; the input reads as it did. -/
def fnAllPermutingCountedSpec : ChangeSpec := { name := "fnAllPermutingCounted", fn := fun _ => fun
  | [d1, d2] => { results := [.lit (.bool true)], args := [d1, d2] }
  | _ => none }
def fnAllPermutingCountedRow : OpenClaim := { program := "ytommagdddleoiab", sum := "f994efb631fde8f89e783bdd855704f6cdb2e2c8d27f09618b691de49099c93b", func := "loop.example/g01163/laws.FnAllPermutingCounted", spec := "fnAllPermutingCounted", inPlace := ["maps.clone"], unfollowed := true, recurses := true, apart := false }
def FnAllPermutingCountedSaid : Prop := fnAllPermutingCountedRow.holds Try.pinned (OpenSpec.ofChange fnAllPermutingCountedSpec)

/-- ITS FALSE NEIGHBOUR: 'it returns false'. Refute it at one input. -/
def fnAllPermutingCountedWrong : ChangeSpec := { name := "fnAllPermutingCounted", fn := fun _ => fun
  | [d1, d2] => { results := [.lit (.bool false)], args := [d1, d2] }
  | _ => none }
def FnAllPermutingCountedWrongFalsely : Prop := fnAllPermutingCountedRow.holds Try.pinned (OpenSpec.ofChange fnAllPermutingCountedWrong)

/- THE SECOND FORM. 'bulk': how many values and letters a reading holds, each counted each time it is reached (what is shared counts as often as it is met; a slice's spare places count too). A statement '..UptoSaid' is the law's where the arguments, and the package variables that the reading takes, are together of bulk at most 1048576: NARROWER than '..Said'. Prove '..Said' where nothing that the law and all that it calls make is longer than what came in: it says more and counts as full. Else prove '..UptoSaid'. A law counts once. -/
mutual
def uptoBulk {H : Type} : DataW H → Nat
  | .lit (.string bytes) => bytes.length + 1
  | .lit _ => 1
  | .nil => 1
  | .ptr d => uptoBulk d + 1
  | .slice elems spare => uptoBulkAll elems + uptoBulkAll spare + 1
  | .agg parts => uptoBulkAll parts + 1
  | .iface _ d => uptoBulk d + 1
  | .map entries => uptoBulkEntries entries + 1
  | .held _ => 1
def uptoBulkAll {H : Type} : List (DataW H) → Nat
  | [] => 0
  | d :: r => uptoBulk d + uptoBulkAll r
def uptoBulkEntries {H : Type} : List (Lit × DataW H) → Nat
  | [] => 0
  | x :: r => uptoBulkEntry x + uptoBulkEntries r
def uptoBulkEntry {H : Type} : Lit × DataW H → Nat
  | (.string bytes, d) => bytes.length + uptoBulk d + 1
  | (_, d) => uptoBulk d + 1
 end
def uptoSmall : (H : Type) → List (DataW H) → Bool := fun _ ds => decide (uptoBulkAll ds ≤ 1048576)
def OpenSpec.upto (s : _root_.Go.ChangeSpec) : _root_.Go.OpenSpec := { _root_.Go.OpenSpec.ofChange s with cond := some uptoSmall }

/-- 'laws.FnExactPolyWith', WHERE WHAT IT READS IS OF BULK AT MOST 1048576: true; the input reads as it did. -/
def fnExactPolyWithUptoRow : OpenClaim := { program := "ytommagdddleoiab", sum := "f994efb631fde8f89e783bdd855704f6cdb2e2c8d27f09618b691de49099c93b", func := "loop.example/g01163/laws.FnExactPolyWith", spec := "fnExactPolyWith", apart := false, narrowed := true }
def FnExactPolyWithUptoSaid : Prop := fnExactPolyWithUptoRow.holds Try.pinned (OpenSpec.upto fnExactPolyWithSpec)

/-- 'laws.FnExactInversePoly', WHERE WHAT IT READS IS OF BULK AT MOST 1048576: true; the input reads as it did. -/
def fnExactInversePolyUptoRow : OpenClaim := { program := "ytommagdddleoiab", sum := "f994efb631fde8f89e783bdd855704f6cdb2e2c8d27f09618b691de49099c93b", func := "loop.example/g01163/laws.FnExactInversePoly", spec := "fnExactInversePoly", inPlace := ["maps.clone"], unfollowed := true, recurses := true, apart := false, narrowed := true }
def FnExactInversePolyUptoSaid : Prop := fnExactInversePolyUptoRow.holds Try.pinned (OpenSpec.upto fnExactInversePolySpec)

/-- 'laws.FnExactCyclesOfPoly', WHERE WHAT IT READS IS OF BULK AT MOST 1048576: true; the input reads as it did. -/
def fnExactCyclesOfPolyUptoRow : OpenClaim := { program := "ytommagdddleoiab", sum := "f994efb631fde8f89e783bdd855704f6cdb2e2c8d27f09618b691de49099c93b", func := "loop.example/g01163/laws.FnExactCyclesOfPoly", spec := "fnExactCyclesOfPoly", inPlace := ["maps.clone"], unfollowed := true, recurses := true, apart := false, narrowed := true }
def FnExactCyclesOfPolyUptoSaid : Prop := fnExactCyclesOfPolyUptoRow.holds Try.pinned (OpenSpec.upto fnExactCyclesOfPolySpec)

/-- 'laws.FnExactOrderOfPoly', WHERE WHAT IT READS IS OF BULK AT MOST 1048576: true; the input reads as it did. -/
def fnExactOrderOfPolyUptoRow : OpenClaim := { program := "ytommagdddleoiab", sum := "f994efb631fde8f89e783bdd855704f6cdb2e2c8d27f09618b691de49099c93b", func := "loop.example/g01163/laws.FnExactOrderOfPoly", spec := "fnExactOrderOfPoly", inPlace := ["maps.clone"], unfollowed := true, recurses := true, apart := false, narrowed := true }
def FnExactOrderOfPolyUptoSaid : Prop := fnExactOrderOfPolyUptoRow.holds Try.pinned (OpenSpec.upto fnExactOrderOfPolySpec)

/-- 'laws.FnExactSignOfPoly', WHERE WHAT IT READS IS OF BULK AT MOST 1048576: true; the input reads as it did. -/
def fnExactSignOfPolyUptoRow : OpenClaim := { program := "ytommagdddleoiab", sum := "f994efb631fde8f89e783bdd855704f6cdb2e2c8d27f09618b691de49099c93b", func := "loop.example/g01163/laws.FnExactSignOfPoly", spec := "fnExactSignOfPoly", inPlace := ["maps.clone"], unfollowed := true, recurses := true, apart := false, narrowed := true }
def FnExactSignOfPolyUptoSaid : Prop := fnExactSignOfPolyUptoRow.holds Try.pinned (OpenSpec.upto fnExactSignOfPolySpec)

/-- 'laws.FnExactCountPermuting', WHERE WHAT IT READS IS OF BULK AT MOST 1048576: true; the input reads as it did. -/
def fnExactCountPermutingUptoRow : OpenClaim := { program := "ytommagdddleoiab", sum := "f994efb631fde8f89e783bdd855704f6cdb2e2c8d27f09618b691de49099c93b", func := "loop.example/g01163/laws.FnExactCountPermuting", spec := "fnExactCountPermuting", inPlace := ["maps.clone"], unfollowed := true, recurses := true, apart := false, narrowed := true }
def FnExactCountPermutingUptoSaid : Prop := fnExactCountPermutingUptoRow.holds Try.pinned (OpenSpec.upto fnExactCountPermutingSpec)

/-- 'laws.FnExactNormalWith', WHERE WHAT IT READS IS OF BULK AT MOST 1048576: true; the input reads as it did. -/
def fnExactNormalWithUptoRow : OpenClaim := { program := "ytommagdddleoiab", sum := "f994efb631fde8f89e783bdd855704f6cdb2e2c8d27f09618b691de49099c93b", func := "loop.example/g01163/laws.FnExactNormalWith", spec := "fnExactNormalWith", inPlace := ["maps.clone"], unfollowed := true, recurses := true, apart := false, narrowed := true }
def FnExactNormalWithUptoSaid : Prop := fnExactNormalWithUptoRow.holds Try.pinned (OpenSpec.upto fnExactNormalWithSpec)

/-- 'laws.FnAllPermutingCounted', WHERE WHAT IT READS IS OF BULK AT MOST 1048576: true; the input reads as it did. -/
def fnAllPermutingCountedUptoRow : OpenClaim := { program := "ytommagdddleoiab", sum := "f994efb631fde8f89e783bdd855704f6cdb2e2c8d27f09618b691de49099c93b", func := "loop.example/g01163/laws.FnAllPermutingCounted", spec := "fnAllPermutingCounted", inPlace := ["maps.clone"], unfollowed := true, recurses := true, apart := false, narrowed := true }
def FnAllPermutingCountedUptoSaid : Prop := fnAllPermutingCountedUptoRow.holds Try.pinned (OpenSpec.upto fnAllPermutingCountedSpec)

end Rows
end Go.Proofs.Ytommagdddleoiab
