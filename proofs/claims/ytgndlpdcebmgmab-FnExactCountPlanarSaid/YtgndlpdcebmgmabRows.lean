/-
  No cell of these rows narrows 'for every input' (looked for: loops, veiled, ifaces, maps, wideKeys, modest, calm, conditions, laid).
  DERIVED. THE GIVEN ROWS OF THIS SEAT. 10 by the template 'for every input the law returns true; each argument reads behind the call as it read before'; 0 by the template 'total and deterministic' (their statements: YtgndlpdcebmgmabTotals.lean).
  GIVEN WITH THE SEED: the statements are not yours to turn. If you find one false, say at which input.
  Laid BY PROGRAM, IN A SANDBOX (cutbox-rows.mjs): the forced cells as the released guide's own fill.sh prints them over the translation d53b739daa82f8da… (all of the seat's roots in one cut). By AI agents, Wed Nov 11 2026. No macro, syntax, notation, axiom, sorry.
-/
import Derived.Test.YtgndlpdcebmgmabChecked
import GoSem.Claim
import GoSem.ClaimJoined
import GoSem.ClaimMapViews
import Derived.JoinedTies
import Derived.KernelRfl
namespace Go.Proofs.Ytgndlpdcebmgmab
/- THE CELL 'sum', in the pinned program and in every row, IS THE sha256 OF THE DUMP (.gsa) THAT YtgndlpdcebmgmabProg.lean LOADS. Nothing in Lean hashes anything: it is a label: what it is worth is what the hold of that sum in a sandbox is worth. -/
noncomputable def Try.pinned : Pinned := { name := "ytgndlpdcebmgmab", sum := "d53b739daa82f8da21435e63ea6c9fd3b19da13bb810d5f6ace411701a171cd7", checked := Try.checked }
namespace Rows
def none {H : Type} : Left H := { results := [], args := [] }

/-- 'laws.FnExactCountPlanar': WHATEVER THE INPUT: true; the input reads as it did. -/
def fnExactCountPlanarSpec : ChangeSpec := { name := "fnExactCountPlanar", fn := fun _ => fun
  | [d] => { results := [.lit (.bool true)], args := [d] }
  | _ => none }
def fnExactCountPlanarRow : OpenClaim := { program := "ytgndlpdcebmgmab", sum := "d53b739daa82f8da21435e63ea6c9fd3b19da13bb810d5f6ace411701a171cd7", func := "loop.example/g01163/laws.FnExactCountPlanar", spec := "fnExactCountPlanar", apart := false }
def FnExactCountPlanarSaid : Prop := fnExactCountPlanarRow.holds Try.pinned (OpenSpec.ofChange fnExactCountPlanarSpec)

/-- ITS FALSE NEIGHBOUR: 'it returns false'. Refute it at one input. -/
def fnExactCountPlanarWrong : ChangeSpec := { name := "fnExactCountPlanar", fn := fun _ => fun
  | [d] => { results := [.lit (.bool false)], args := [d] }
  | _ => none }
def FnExactCountPlanarWrongFalsely : Prop := fnExactCountPlanarRow.holds Try.pinned (OpenSpec.ofChange fnExactCountPlanarWrong)

/-- 'laws.FnExactSumPower': WHATEVER THE INPUT: true; the input reads as it did. -/
def fnExactSumPowerSpec : ChangeSpec := { name := "fnExactSumPower", fn := fun _ => fun
  | [d1, d2] => { results := [.lit (.bool true)], args := [d1, d2] }
  | _ => none }
def fnExactSumPowerRow : OpenClaim := { program := "ytgndlpdcebmgmab", sum := "d53b739daa82f8da21435e63ea6c9fd3b19da13bb810d5f6ace411701a171cd7", func := "loop.example/g01163/laws.FnExactSumPower", spec := "fnExactSumPower", unfollowed := true, recurses := true, apart := false }
def FnExactSumPowerSaid : Prop := fnExactSumPowerRow.holds Try.pinned (OpenSpec.ofChange fnExactSumPowerSpec)

/-- ITS FALSE NEIGHBOUR: 'it returns false'. Refute it at one input. -/
def fnExactSumPowerWrong : ChangeSpec := { name := "fnExactSumPower", fn := fun _ => fun
  | [d1, d2] => { results := [.lit (.bool false)], args := [d1, d2] }
  | _ => none }
def FnExactSumPowerWrongFalsely : Prop := fnExactSumPowerRow.holds Try.pinned (OpenSpec.ofChange fnExactSumPowerWrong)

/-- 'laws.FnExactSumPowerCount': WHATEVER THE INPUT: true; the input reads as it did. -/
def fnExactSumPowerCountSpec : ChangeSpec := { name := "fnExactSumPowerCount", fn := fun _ => fun
  | [d1, d2] => { results := [.lit (.bool true)], args := [d1, d2] }
  | _ => none }
def fnExactSumPowerCountRow : OpenClaim := { program := "ytgndlpdcebmgmab", sum := "d53b739daa82f8da21435e63ea6c9fd3b19da13bb810d5f6ace411701a171cd7", func := "loop.example/g01163/laws.FnExactSumPowerCount", spec := "fnExactSumPowerCount", recurses := true, apart := false }
def FnExactSumPowerCountSaid : Prop := fnExactSumPowerCountRow.holds Try.pinned (OpenSpec.ofChange fnExactSumPowerCountSpec)

/-- ITS FALSE NEIGHBOUR: 'it returns false'. Refute it at one input. -/
def fnExactSumPowerCountWrong : ChangeSpec := { name := "fnExactSumPowerCount", fn := fun _ => fun
  | [d1, d2] => { results := [.lit (.bool false)], args := [d1, d2] }
  | _ => none }
def FnExactSumPowerCountWrongFalsely : Prop := fnExactSumPowerCountRow.holds Try.pinned (OpenSpec.ofChange fnExactSumPowerCountWrong)

/-- 'laws.FnExactNormalOf': WHATEVER THE INPUT: true; the input reads as it did. -/
def fnExactNormalOfSpec : ChangeSpec := { name := "fnExactNormalOf", fn := fun _ => fun
  | [d1, d2] => { results := [.lit (.bool true)], args := [d1, d2] }
  | _ => none }
def fnExactNormalOfRow : OpenClaim := { program := "ytgndlpdcebmgmab", sum := "d53b739daa82f8da21435e63ea6c9fd3b19da13bb810d5f6ace411701a171cd7", func := "loop.example/g01163/laws.FnExactNormalOf", spec := "fnExactNormalOf", unfollowed := true, recurses := true, apart := false }
def FnExactNormalOfSaid : Prop := fnExactNormalOfRow.holds Try.pinned (OpenSpec.ofChange fnExactNormalOfSpec)

/-- ITS FALSE NEIGHBOUR: 'it returns false'. Refute it at one input. -/
def fnExactNormalOfWrong : ChangeSpec := { name := "fnExactNormalOf", fn := fun _ => fun
  | [d1, d2] => { results := [.lit (.bool false)], args := [d1, d2] }
  | _ => none }
def FnExactNormalOfWrongFalsely : Prop := fnExactNormalOfRow.holds Try.pinned (OpenSpec.ofChange fnExactNormalOfWrong)

/-- 'laws.FnExactIsAdditive': WHATEVER THE INPUT: true; the input reads as it did. -/
def fnExactIsAdditiveSpec : ChangeSpec := { name := "fnExactIsAdditive", fn := fun _ => fun
  | [d1, d2] => { results := [.lit (.bool true)], args := [d1, d2] }
  | _ => none }
def fnExactIsAdditiveRow : OpenClaim := { program := "ytgndlpdcebmgmab", sum := "d53b739daa82f8da21435e63ea6c9fd3b19da13bb810d5f6ace411701a171cd7", func := "loop.example/g01163/laws.FnExactIsAdditive", spec := "fnExactIsAdditive", unfollowed := true, recurses := true, apart := false }
def FnExactIsAdditiveSaid : Prop := fnExactIsAdditiveRow.holds Try.pinned (OpenSpec.ofChange fnExactIsAdditiveSpec)

/-- ITS FALSE NEIGHBOUR: 'it returns false'. Refute it at one input. -/
def fnExactIsAdditiveWrong : ChangeSpec := { name := "fnExactIsAdditive", fn := fun _ => fun
  | [d1, d2] => { results := [.lit (.bool false)], args := [d1, d2] }
  | _ => none }
def FnExactIsAdditiveWrongFalsely : Prop := fnExactIsAdditiveRow.holds Try.pinned (OpenSpec.ofChange fnExactIsAdditiveWrong)

/-- 'laws.FnExactIsMoved': WHATEVER THE INPUT: true; the input reads as it did. -/
def fnExactIsMovedSpec : ChangeSpec := { name := "fnExactIsMoved", fn := fun _ => fun
  | [d1, d2] => { results := [.lit (.bool true)], args := [d1, d2] }
  | _ => none }
def fnExactIsMovedRow : OpenClaim := { program := "ytgndlpdcebmgmab", sum := "d53b739daa82f8da21435e63ea6c9fd3b19da13bb810d5f6ace411701a171cd7", func := "loop.example/g01163/laws.FnExactIsMoved", spec := "fnExactIsMoved", unfollowed := true, recurses := true, apart := false }
def FnExactIsMovedSaid : Prop := fnExactIsMovedRow.holds Try.pinned (OpenSpec.ofChange fnExactIsMovedSpec)

/-- ITS FALSE NEIGHBOUR: 'it returns false'. Refute it at one input. -/
def fnExactIsMovedWrong : ChangeSpec := { name := "fnExactIsMoved", fn := fun _ => fun
  | [d1, d2] => { results := [.lit (.bool false)], args := [d1, d2] }
  | _ => none }
def FnExactIsMovedWrongFalsely : Prop := fnExactIsMovedRow.holds Try.pinned (OpenSpec.ofChange fnExactIsMovedWrong)

/-- 'laws.FnExactAdditiveOf': WHATEVER THE INPUT: true; the input reads as it did. -/
def fnExactAdditiveOfSpec : ChangeSpec := { name := "fnExactAdditiveOf", fn := fun _ => fun
  | [d1, d2] => { results := [.lit (.bool true)], args := [d1, d2] }
  | _ => none }
def fnExactAdditiveOfRow : OpenClaim := { program := "ytgndlpdcebmgmab", sum := "d53b739daa82f8da21435e63ea6c9fd3b19da13bb810d5f6ace411701a171cd7", func := "loop.example/g01163/laws.FnExactAdditiveOf", spec := "fnExactAdditiveOf", unfollowed := true, recurses := true, apart := false }
def FnExactAdditiveOfSaid : Prop := fnExactAdditiveOfRow.holds Try.pinned (OpenSpec.ofChange fnExactAdditiveOfSpec)

/-- ITS FALSE NEIGHBOUR: 'it returns false'. Refute it at one input. -/
def fnExactAdditiveOfWrong : ChangeSpec := { name := "fnExactAdditiveOf", fn := fun _ => fun
  | [d1, d2] => { results := [.lit (.bool false)], args := [d1, d2] }
  | _ => none }
def FnExactAdditiveOfWrongFalsely : Prop := fnExactAdditiveOfRow.holds Try.pinned (OpenSpec.ofChange fnExactAdditiveOfWrong)

/-- 'laws.FnExactCoefficientsOf': WHATEVER THE INPUT: true; the input reads as it did. -/
def fnExactCoefficientsOfSpec : ChangeSpec := { name := "fnExactCoefficientsOf", fn := fun _ => fun
  | [d1, d2] => { results := [.lit (.bool true)], args := [d1, d2] }
  | _ => none }
def fnExactCoefficientsOfRow : OpenClaim := { program := "ytgndlpdcebmgmab", sum := "d53b739daa82f8da21435e63ea6c9fd3b19da13bb810d5f6ace411701a171cd7", func := "loop.example/g01163/laws.FnExactCoefficientsOf", spec := "fnExactCoefficientsOf", unfollowed := true, recurses := true, apart := false }
def FnExactCoefficientsOfSaid : Prop := fnExactCoefficientsOfRow.holds Try.pinned (OpenSpec.ofChange fnExactCoefficientsOfSpec)

/-- ITS FALSE NEIGHBOUR: 'it returns false'. Refute it at one input. -/
def fnExactCoefficientsOfWrong : ChangeSpec := { name := "fnExactCoefficientsOf", fn := fun _ => fun
  | [d1, d2] => { results := [.lit (.bool false)], args := [d1, d2] }
  | _ => none }
def FnExactCoefficientsOfWrongFalsely : Prop := fnExactCoefficientsOfRow.holds Try.pinned (OpenSpec.ofChange fnExactCoefficientsOfWrong)

/-- 'laws.FnExactRowsOf': WHATEVER THE INPUT: true; the input reads as it did. -/
def fnExactRowsOfSpec : ChangeSpec := { name := "fnExactRowsOf", fn := fun _ => fun
  | [d1, d2] => { results := [.lit (.bool true)], args := [d1, d2] }
  | _ => none }
def fnExactRowsOfRow : OpenClaim := { program := "ytgndlpdcebmgmab", sum := "d53b739daa82f8da21435e63ea6c9fd3b19da13bb810d5f6ace411701a171cd7", func := "loop.example/g01163/laws.FnExactRowsOf", spec := "fnExactRowsOf", unfollowed := true, recurses := true, apart := false }
def FnExactRowsOfSaid : Prop := fnExactRowsOfRow.holds Try.pinned (OpenSpec.ofChange fnExactRowsOfSpec)

/-- ITS FALSE NEIGHBOUR: 'it returns false'. Refute it at one input. -/
def fnExactRowsOfWrong : ChangeSpec := { name := "fnExactRowsOf", fn := fun _ => fun
  | [d1, d2] => { results := [.lit (.bool false)], args := [d1, d2] }
  | _ => none }
def FnExactRowsOfWrongFalsely : Prop := fnExactRowsOfRow.holds Try.pinned (OpenSpec.ofChange fnExactRowsOfWrong)

/-- 'laws.FnExactCountAdditivePermuting': WHATEVER THE INPUT: true; the input reads as it did. -/
def fnExactCountAdditivePermutingSpec : ChangeSpec := { name := "fnExactCountAdditivePermuting", fn := fun _ => fun
  | [d] => { results := [.lit (.bool true)], args := [d] }
  | _ => none }
def fnExactCountAdditivePermutingRow : OpenClaim := { program := "ytgndlpdcebmgmab", sum := "d53b739daa82f8da21435e63ea6c9fd3b19da13bb810d5f6ace411701a171cd7", func := "loop.example/g01163/laws.FnExactCountAdditivePermuting", spec := "fnExactCountAdditivePermuting", unfollowed := true, recurses := true, apart := false }
def FnExactCountAdditivePermutingSaid : Prop := fnExactCountAdditivePermutingRow.holds Try.pinned (OpenSpec.ofChange fnExactCountAdditivePermutingSpec)

/-- ITS FALSE NEIGHBOUR: 'it returns false'. Refute it at one input. -/
def fnExactCountAdditivePermutingWrong : ChangeSpec := { name := "fnExactCountAdditivePermuting", fn := fun _ => fun
  | [d] => { results := [.lit (.bool false)], args := [d] }
  | _ => none }
def FnExactCountAdditivePermutingWrongFalsely : Prop := fnExactCountAdditivePermutingRow.holds Try.pinned (OpenSpec.ofChange fnExactCountAdditivePermutingWrong)

/- THE SECOND FORM. 'bulk': how many values and letters a reading holds, each counted each time it is reached (what is shared counts as often as it is met; a slice's spare places count too). A statement '..UptoSaid' is the law's where the arguments, and the package variables that the reading takes, are together of bulk at most 1048576: NARROWER than '..Said'. Prove '..Said' where nothing that the law and all that it calls make is longer than what came in: it says more and counts as full. Else prove '..UptoSaid'. A law counts once. -/
mutual
def uptoBulk {H : Type} : DataW H → Nat
  | .lit (.string bytes) => bytes.length + 1
  | .lit _ => 1
  | .nil => 1
  | .ptr d => uptoBulk d + 1
  | .slice elems spare => uptoBulkAll elems + uptoBulkAll spare + 1
  | .agg parts => uptoBulkAll parts + 1
  | .iface _ d => uptoBulk d + 1
  | .map entries => uptoBulkEntries entries + 1
  | .held _ => 1
def uptoBulkAll {H : Type} : List (DataW H) → Nat
  | [] => 0
  | d :: r => uptoBulk d + uptoBulkAll r
def uptoBulkEntries {H : Type} : List (Lit × DataW H) → Nat
  | [] => 0
  | x :: r => uptoBulkEntry x + uptoBulkEntries r
def uptoBulkEntry {H : Type} : Lit × DataW H → Nat
  | (.string bytes, d) => bytes.length + uptoBulk d + 1
  | (_, d) => uptoBulk d + 1
 end
def uptoSmall : (H : Type) → List (DataW H) → Bool := fun _ ds => decide (uptoBulkAll ds ≤ 1048576)
def OpenSpec.upto (s : _root_.Go.ChangeSpec) : _root_.Go.OpenSpec := { _root_.Go.OpenSpec.ofChange s with cond := some uptoSmall }

/-- 'laws.FnExactCountPlanar', WHERE WHAT IT READS IS OF BULK AT MOST 1048576: true; the input reads as it did. -/
def fnExactCountPlanarUptoRow : OpenClaim := { program := "ytgndlpdcebmgmab", sum := "d53b739daa82f8da21435e63ea6c9fd3b19da13bb810d5f6ace411701a171cd7", func := "loop.example/g01163/laws.FnExactCountPlanar", spec := "fnExactCountPlanar", apart := false, narrowed := true }
def FnExactCountPlanarUptoSaid : Prop := fnExactCountPlanarUptoRow.holds Try.pinned (OpenSpec.upto fnExactCountPlanarSpec)

/-- 'laws.FnExactSumPower', WHERE WHAT IT READS IS OF BULK AT MOST 1048576: true; the input reads as it did. -/
def fnExactSumPowerUptoRow : OpenClaim := { program := "ytgndlpdcebmgmab", sum := "d53b739daa82f8da21435e63ea6c9fd3b19da13bb810d5f6ace411701a171cd7", func := "loop.example/g01163/laws.FnExactSumPower", spec := "fnExactSumPower", unfollowed := true, recurses := true, apart := false, narrowed := true }
def FnExactSumPowerUptoSaid : Prop := fnExactSumPowerUptoRow.holds Try.pinned (OpenSpec.upto fnExactSumPowerSpec)

/-- 'laws.FnExactSumPowerCount', WHERE WHAT IT READS IS OF BULK AT MOST 1048576: true; the input reads as it did. -/
def fnExactSumPowerCountUptoRow : OpenClaim := { program := "ytgndlpdcebmgmab", sum := "d53b739daa82f8da21435e63ea6c9fd3b19da13bb810d5f6ace411701a171cd7", func := "loop.example/g01163/laws.FnExactSumPowerCount", spec := "fnExactSumPowerCount", recurses := true, apart := false, narrowed := true }
def FnExactSumPowerCountUptoSaid : Prop := fnExactSumPowerCountUptoRow.holds Try.pinned (OpenSpec.upto fnExactSumPowerCountSpec)

/-- 'laws.FnExactNormalOf', WHERE WHAT IT READS IS OF BULK AT MOST 1048576: true; the input reads as it did. -/
def fnExactNormalOfUptoRow : OpenClaim := { program := "ytgndlpdcebmgmab", sum := "d53b739daa82f8da21435e63ea6c9fd3b19da13bb810d5f6ace411701a171cd7", func := "loop.example/g01163/laws.FnExactNormalOf", spec := "fnExactNormalOf", unfollowed := true, recurses := true, apart := false, narrowed := true }
def FnExactNormalOfUptoSaid : Prop := fnExactNormalOfUptoRow.holds Try.pinned (OpenSpec.upto fnExactNormalOfSpec)

/-- 'laws.FnExactIsAdditive', WHERE WHAT IT READS IS OF BULK AT MOST 1048576: true; the input reads as it did. -/
def fnExactIsAdditiveUptoRow : OpenClaim := { program := "ytgndlpdcebmgmab", sum := "d53b739daa82f8da21435e63ea6c9fd3b19da13bb810d5f6ace411701a171cd7", func := "loop.example/g01163/laws.FnExactIsAdditive", spec := "fnExactIsAdditive", unfollowed := true, recurses := true, apart := false, narrowed := true }
def FnExactIsAdditiveUptoSaid : Prop := fnExactIsAdditiveUptoRow.holds Try.pinned (OpenSpec.upto fnExactIsAdditiveSpec)

/-- 'laws.FnExactIsMoved', WHERE WHAT IT READS IS OF BULK AT MOST 1048576: true; the input reads as it did. -/
def fnExactIsMovedUptoRow : OpenClaim := { program := "ytgndlpdcebmgmab", sum := "d53b739daa82f8da21435e63ea6c9fd3b19da13bb810d5f6ace411701a171cd7", func := "loop.example/g01163/laws.FnExactIsMoved", spec := "fnExactIsMoved", unfollowed := true, recurses := true, apart := false, narrowed := true }
def FnExactIsMovedUptoSaid : Prop := fnExactIsMovedUptoRow.holds Try.pinned (OpenSpec.upto fnExactIsMovedSpec)

/-- 'laws.FnExactAdditiveOf', WHERE WHAT IT READS IS OF BULK AT MOST 1048576: true; the input reads as it did. -/
def fnExactAdditiveOfUptoRow : OpenClaim := { program := "ytgndlpdcebmgmab", sum := "d53b739daa82f8da21435e63ea6c9fd3b19da13bb810d5f6ace411701a171cd7", func := "loop.example/g01163/laws.FnExactAdditiveOf", spec := "fnExactAdditiveOf", unfollowed := true, recurses := true, apart := false, narrowed := true }
def FnExactAdditiveOfUptoSaid : Prop := fnExactAdditiveOfUptoRow.holds Try.pinned (OpenSpec.upto fnExactAdditiveOfSpec)

/-- 'laws.FnExactCoefficientsOf', WHERE WHAT IT READS IS OF BULK AT MOST 1048576: true; the input reads as it did. -/
def fnExactCoefficientsOfUptoRow : OpenClaim := { program := "ytgndlpdcebmgmab", sum := "d53b739daa82f8da21435e63ea6c9fd3b19da13bb810d5f6ace411701a171cd7", func := "loop.example/g01163/laws.FnExactCoefficientsOf", spec := "fnExactCoefficientsOf", unfollowed := true, recurses := true, apart := false, narrowed := true }
def FnExactCoefficientsOfUptoSaid : Prop := fnExactCoefficientsOfUptoRow.holds Try.pinned (OpenSpec.upto fnExactCoefficientsOfSpec)

/-- 'laws.FnExactRowsOf', WHERE WHAT IT READS IS OF BULK AT MOST 1048576: true; the input reads as it did. -/
def fnExactRowsOfUptoRow : OpenClaim := { program := "ytgndlpdcebmgmab", sum := "d53b739daa82f8da21435e63ea6c9fd3b19da13bb810d5f6ace411701a171cd7", func := "loop.example/g01163/laws.FnExactRowsOf", spec := "fnExactRowsOf", unfollowed := true, recurses := true, apart := false, narrowed := true }
def FnExactRowsOfUptoSaid : Prop := fnExactRowsOfUptoRow.holds Try.pinned (OpenSpec.upto fnExactRowsOfSpec)

/-- 'laws.FnExactCountAdditivePermuting', WHERE WHAT IT READS IS OF BULK AT MOST 1048576: true; the input reads as it did. -/
def fnExactCountAdditivePermutingUptoRow : OpenClaim := { program := "ytgndlpdcebmgmab", sum := "d53b739daa82f8da21435e63ea6c9fd3b19da13bb810d5f6ace411701a171cd7", func := "loop.example/g01163/laws.FnExactCountAdditivePermuting", spec := "fnExactCountAdditivePermuting", unfollowed := true, recurses := true, apart := false, narrowed := true }
def FnExactCountAdditivePermutingUptoSaid : Prop := fnExactCountAdditivePermutingUptoRow.holds Try.pinned (OpenSpec.upto fnExactCountAdditivePermutingSpec)

end Rows
end Go.Proofs.Ytgndlpdcebmgmab
