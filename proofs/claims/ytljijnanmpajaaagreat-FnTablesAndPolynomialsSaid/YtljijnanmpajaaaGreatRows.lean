/-
  No cell of these rows narrows 'for every input' (looked for: loops, veiled, ifaces, maps, wideKeys, modest, calm, conditions, laid).
  DERIVED. THE GIVEN ROWS OF THIS SEAT. 4 by the template 'for every input the law returns true; each argument reads behind the call as it read before'; 0 by the template 'total and deterministic' (their statements: YtljijnanmpajaaaGreatTotals.lean).
  GIVEN WITH THE SEED: the statements are not yours to turn. If you find one false, say at which input.
  Laid BY PROGRAM, IN A SANDBOX (cutbox-rows.mjs): the forced cells as the released guide's own fill.sh prints them over the translation a4086d34d78ee80d… (all of the seat's roots in one cut). By AI agents, Wed Nov 11 2026. No macro, syntax, notation, axiom, sorry.
-/
import Derived.Test.YtljijnanmpajaaaGreatChecked
import GoSem.Claim
import GoSem.ClaimJoined
import GoSem.ClaimMapViews
import Derived.JoinedTies
import Derived.KernelRfl
namespace Go.Proofs.YtljijnanmpajaaaGreat
/- THE CELL 'sum', in the pinned program and in every row, IS THE sha256 OF THE DUMP (.gsa) THAT YtljijnanmpajaaaGreatProg.lean LOADS. Nothing in Lean hashes anything: it is a label: what it is worth is what the hold of that sum in a sandbox is worth. -/
noncomputable def Tryz.pinned : Pinned := { name := "ytljijnanmpajaaagreat", sum := "a4086d34d78ee80d04c8d5f40cb4baffa4c579fd60454d4faa60be492a27b112", checked := Tryz.checked }
namespace Rows
def none {H : Type} : Left H := { results := [], args := [] }

/-- 'laws.FnTablesAndPolynomials': WHATEVER THE INPUT: true; the input reads as it did. -/
def fnTablesAndPolynomialsSpec : ChangeSpec := { name := "fnTablesAndPolynomials", fn := fun _ => fun
  | [d1, d2] => { results := [.lit (.bool true)], args := [d1, d2] }
  | _ => none }
def fnTablesAndPolynomialsRow : OpenClaim := { program := "ytljijnanmpajaaagreat", sum := "a4086d34d78ee80d04c8d5f40cb4baffa4c579fd60454d4faa60be492a27b112", func := "loop.example/g01163/laws.FnTablesAndPolynomials", spec := "fnTablesAndPolynomials", unfollowed := true, recurses := true, apart := false }
def FnTablesAndPolynomialsSaid : Prop := fnTablesAndPolynomialsRow.holds Tryz.pinned (OpenSpec.ofChange fnTablesAndPolynomialsSpec)

/-- ITS FALSE NEIGHBOUR: 'it returns false'. Refute it at one input. -/
def fnTablesAndPolynomialsWrong : ChangeSpec := { name := "fnTablesAndPolynomials", fn := fun _ => fun
  | [d1, d2] => { results := [.lit (.bool false)], args := [d1, d2] }
  | _ => none }
def FnTablesAndPolynomialsWrongFalsely : Prop := fnTablesAndPolynomialsRow.holds Tryz.pinned (OpenSpec.ofChange fnTablesAndPolynomialsWrong)

/-- 'laws.FnPolynomialsCompose': WHATEVER THE INPUT: true; the input reads as it did. -/
def fnPolynomialsComposeSpec : ChangeSpec := { name := "fnPolynomialsCompose", fn := fun _ => fun
  | [d1, d2] => { results := [.lit (.bool true)], args := [d1, d2] }
  | _ => none }
def fnPolynomialsComposeRow : OpenClaim := { program := "ytljijnanmpajaaagreat", sum := "a4086d34d78ee80d04c8d5f40cb4baffa4c579fd60454d4faa60be492a27b112", func := "loop.example/g01163/laws.FnPolynomialsCompose", spec := "fnPolynomialsCompose", unfollowed := true, recurses := true, apart := false }
def FnPolynomialsComposeSaid : Prop := fnPolynomialsComposeRow.holds Tryz.pinned (OpenSpec.ofChange fnPolynomialsComposeSpec)

/-- ITS FALSE NEIGHBOUR: 'it returns false'. Refute it at one input. -/
def fnPolynomialsComposeWrong : ChangeSpec := { name := "fnPolynomialsCompose", fn := fun _ => fun
  | [d1, d2] => { results := [.lit (.bool false)], args := [d1, d2] }
  | _ => none }
def FnPolynomialsComposeWrongFalsely : Prop := fnPolynomialsComposeRow.holds Tryz.pinned (OpenSpec.ofChange fnPolynomialsComposeWrong)

/-- 'laws.FnValuesAndPlaces': WHATEVER THE INPUT: true; the input reads as it did. -/
def fnValuesAndPlacesSpec : ChangeSpec := { name := "fnValuesAndPlaces", fn := fun _ => fun
  | [d1, d2] => { results := [.lit (.bool true)], args := [d1, d2] }
  | _ => none }
def fnValuesAndPlacesRow : OpenClaim := { program := "ytljijnanmpajaaagreat", sum := "a4086d34d78ee80d04c8d5f40cb4baffa4c579fd60454d4faa60be492a27b112", func := "loop.example/g01163/laws.FnValuesAndPlaces", spec := "fnValuesAndPlaces", inPlace := ["maps.clone"], unfollowed := true, recurses := true, apart := false }
def FnValuesAndPlacesSaid : Prop := fnValuesAndPlacesRow.holds Tryz.pinned (OpenSpec.ofChange fnValuesAndPlacesSpec)

/-- ITS FALSE NEIGHBOUR: 'it returns false'. Refute it at one input. -/
def fnValuesAndPlacesWrong : ChangeSpec := { name := "fnValuesAndPlaces", fn := fun _ => fun
  | [d1, d2] => { results := [.lit (.bool false)], args := [d1, d2] }
  | _ => none }
def FnValuesAndPlacesWrongFalsely : Prop := fnValuesAndPlacesRow.holds Tryz.pinned (OpenSpec.ofChange fnValuesAndPlacesWrong)

/-- 'laws.FnMomentsVanish': WHATEVER THE INPUT: true; the input reads as it did. -/
def fnMomentsVanishSpec : ChangeSpec := { name := "fnMomentsVanish", fn := fun _ => fun
  | [d1, d2] => { results := [.lit (.bool true)], args := [d1, d2] }
  | _ => none }
def fnMomentsVanishRow : OpenClaim := { program := "ytljijnanmpajaaagreat", sum := "a4086d34d78ee80d04c8d5f40cb4baffa4c579fd60454d4faa60be492a27b112", func := "loop.example/g01163/laws.FnMomentsVanish", spec := "fnMomentsVanish", inPlace := ["maps.clone"], unfollowed := true, recurses := true, apart := false }
def FnMomentsVanishSaid : Prop := fnMomentsVanishRow.holds Tryz.pinned (OpenSpec.ofChange fnMomentsVanishSpec)

/-- ITS FALSE NEIGHBOUR: 'it returns false'. Refute it at one input. -/
def fnMomentsVanishWrong : ChangeSpec := { name := "fnMomentsVanish", fn := fun _ => fun
  | [d1, d2] => { results := [.lit (.bool false)], args := [d1, d2] }
  | _ => none }
def FnMomentsVanishWrongFalsely : Prop := fnMomentsVanishRow.holds Tryz.pinned (OpenSpec.ofChange fnMomentsVanishWrong)

/- THE SECOND FORM. 'bulk': how many values and letters a reading holds, each counted each time it is reached (what is shared counts as often as it is met; a slice's spare places count too). A statement '..UptoSaid' is the law's where the arguments, and the package variables that the reading takes, are together of bulk at most 1048576: NARROWER than '..Said'. Prove '..Said' where nothing that the law and all that it calls make is longer than what came in: it says more and counts as full. Else prove '..UptoSaid'. A law counts once. -/
mutual
def uptoBulk {H : Type} : DataW H → Nat
  | .lit (.string bytes) => bytes.length + 1
  | .lit _ => 1
  | .nil => 1
  | .ptr d => uptoBulk d + 1
  | .slice elems spare => uptoBulkAll elems + uptoBulkAll spare + 1
  | .agg parts => uptoBulkAll parts + 1
  | .iface _ d => uptoBulk d + 1
  | .map entries => uptoBulkEntries entries + 1
  | .held _ => 1
def uptoBulkAll {H : Type} : List (DataW H) → Nat
  | [] => 0
  | d :: r => uptoBulk d + uptoBulkAll r
def uptoBulkEntries {H : Type} : List (Lit × DataW H) → Nat
  | [] => 0
  | x :: r => uptoBulkEntry x + uptoBulkEntries r
def uptoBulkEntry {H : Type} : Lit × DataW H → Nat
  | (.string bytes, d) => bytes.length + uptoBulk d + 1
  | (_, d) => uptoBulk d + 1
 end
def uptoSmall : (H : Type) → List (DataW H) → Bool := fun _ ds => decide (uptoBulkAll ds ≤ 1048576)
def OpenSpec.upto (s : _root_.Go.ChangeSpec) : _root_.Go.OpenSpec := { _root_.Go.OpenSpec.ofChange s with cond := some uptoSmall }

/-- 'laws.FnTablesAndPolynomials', WHERE WHAT IT READS IS OF BULK AT MOST 1048576: true; the input reads as it did. -/
def fnTablesAndPolynomialsUptoRow : OpenClaim := { program := "ytljijnanmpajaaagreat", sum := "a4086d34d78ee80d04c8d5f40cb4baffa4c579fd60454d4faa60be492a27b112", func := "loop.example/g01163/laws.FnTablesAndPolynomials", spec := "fnTablesAndPolynomials", unfollowed := true, recurses := true, apart := false, narrowed := true }
def FnTablesAndPolynomialsUptoSaid : Prop := fnTablesAndPolynomialsUptoRow.holds Tryz.pinned (OpenSpec.upto fnTablesAndPolynomialsSpec)

/-- 'laws.FnPolynomialsCompose', WHERE WHAT IT READS IS OF BULK AT MOST 1048576: true; the input reads as it did. -/
def fnPolynomialsComposeUptoRow : OpenClaim := { program := "ytljijnanmpajaaagreat", sum := "a4086d34d78ee80d04c8d5f40cb4baffa4c579fd60454d4faa60be492a27b112", func := "loop.example/g01163/laws.FnPolynomialsCompose", spec := "fnPolynomialsCompose", unfollowed := true, recurses := true, apart := false, narrowed := true }
def FnPolynomialsComposeUptoSaid : Prop := fnPolynomialsComposeUptoRow.holds Tryz.pinned (OpenSpec.upto fnPolynomialsComposeSpec)

/-- 'laws.FnValuesAndPlaces', WHERE WHAT IT READS IS OF BULK AT MOST 1048576: true; the input reads as it did. -/
def fnValuesAndPlacesUptoRow : OpenClaim := { program := "ytljijnanmpajaaagreat", sum := "a4086d34d78ee80d04c8d5f40cb4baffa4c579fd60454d4faa60be492a27b112", func := "loop.example/g01163/laws.FnValuesAndPlaces", spec := "fnValuesAndPlaces", inPlace := ["maps.clone"], unfollowed := true, recurses := true, apart := false, narrowed := true }
def FnValuesAndPlacesUptoSaid : Prop := fnValuesAndPlacesUptoRow.holds Tryz.pinned (OpenSpec.upto fnValuesAndPlacesSpec)

/-- 'laws.FnMomentsVanish', WHERE WHAT IT READS IS OF BULK AT MOST 1048576: true; the input reads as it did. -/
def fnMomentsVanishUptoRow : OpenClaim := { program := "ytljijnanmpajaaagreat", sum := "a4086d34d78ee80d04c8d5f40cb4baffa4c579fd60454d4faa60be492a27b112", func := "loop.example/g01163/laws.FnMomentsVanish", spec := "fnMomentsVanish", inPlace := ["maps.clone"], unfollowed := true, recurses := true, apart := false, narrowed := true }
def FnMomentsVanishUptoSaid : Prop := fnMomentsVanishUptoRow.holds Tryz.pinned (OpenSpec.upto fnMomentsVanishSpec)

end Rows
end Go.Proofs.YtljijnanmpajaaaGreat
