/-
  No cell of these rows narrows 'for every input' (looked for: loops, veiled, ifaces, maps, wideKeys, modest, calm, conditions, laid).
  DERIVED. THE GIVEN ROWS OF THIS SEAT. 5 by the template 'for every input the law returns true; each argument reads behind the call as it read before'; 0 by the template 'total and deterministic' (their statements: YtimpgbifnijkkabTotals.lean).
  GIVEN WITH THE SEED: the statements are not yours to turn. If you find one false, say at which input.
  Laid BY PROGRAM, IN A SANDBOX (cutbox-rows.mjs): the forced cells as the released guide's own fill.sh prints them over the translation bafeebd6881ed297… (all of the seat's roots in one cut). By AI agents, Wed Nov 11 2026. No macro, syntax, notation, axiom, sorry.
-/
import Derived.Test.YtimpgbifnijkkabChecked
import GoSem.Claim
import GoSem.ClaimJoined
import GoSem.ClaimMapViews
import Derived.JoinedTies
import Derived.KernelRfl
namespace Go.Proofs.Ytimpgbifnijkkab
/- THE CELL 'sum', in the pinned program and in every row, IS THE sha256 OF THE DUMP (.gsa) THAT YtimpgbifnijkkabProg.lean LOADS. Nothing in Lean hashes anything: it is a label: what it is worth is what the hold of that sum in a sandbox is worth. -/
noncomputable def Try.pinned : Pinned := { name := "ytimpgbifnijkkab", sum := "bafeebd6881ed297f3aa9135ff6ba06bca1422e658a7049bb378950bf3a6f364", checked := Try.checked }
namespace Rows
def none {H : Type} : Left H := { results := [], args := [] }

/-- 'laws.FnExactCountComplete': WHATEVER THE INPUT: true; the input reads as it did. -/
def fnExactCountCompleteSpec : ChangeSpec := { name := "fnExactCountComplete", fn := fun _ => fun
  | [d] => { results := [.lit (.bool true)], args := [d] }
  | _ => none }
def fnExactCountCompleteRow : OpenClaim := { program := "ytimpgbifnijkkab", sum := "bafeebd6881ed297f3aa9135ff6ba06bca1422e658a7049bb378950bf3a6f364", func := "loop.example/g01163/laws.FnExactCountComplete", spec := "fnExactCountComplete", unfollowed := true, recurses := true, plainKeys := false, apart := false }
def FnExactCountCompleteSaid : Prop := fnExactCountCompleteRow.holds Try.pinned (OpenSpec.ofChange fnExactCountCompleteSpec)

/-- ITS FALSE NEIGHBOUR: 'it returns false'. Refute it at one input. -/
def fnExactCountCompleteWrong : ChangeSpec := { name := "fnExactCountComplete", fn := fun _ => fun
  | [d] => { results := [.lit (.bool false)], args := [d] }
  | _ => none }
def FnExactCountCompleteWrongFalsely : Prop := fnExactCountCompleteRow.holds Try.pinned (OpenSpec.ofChange fnExactCountCompleteWrong)

/-- 'laws.FnExactCompleteWith': WHATEVER THE INPUT: true; the input reads as it did. -/
def fnExactCompleteWithSpec : ChangeSpec := { name := "fnExactCompleteWith", fn := fun _ => fun
  | [d1, d2] => { results := [.lit (.bool true)], args := [d1, d2] }
  | _ => none }
def fnExactCompleteWithRow : OpenClaim := { program := "ytimpgbifnijkkab", sum := "bafeebd6881ed297f3aa9135ff6ba06bca1422e658a7049bb378950bf3a6f364", func := "loop.example/g01163/laws.FnExactCompleteWith", spec := "fnExactCompleteWith", unfollowed := true, recurses := true, plainKeys := false, apart := false }
def FnExactCompleteWithSaid : Prop := fnExactCompleteWithRow.holds Try.pinned (OpenSpec.ofChange fnExactCompleteWithSpec)

/-- ITS FALSE NEIGHBOUR: 'it returns false'. Refute it at one input. -/
def fnExactCompleteWithWrong : ChangeSpec := { name := "fnExactCompleteWith", fn := fun _ => fun
  | [d1, d2] => { results := [.lit (.bool false)], args := [d1, d2] }
  | _ => none }
def FnExactCompleteWithWrongFalsely : Prop := fnExactCompleteWithRow.holds Try.pinned (OpenSpec.ofChange fnExactCompleteWithWrong)

/-- 'laws.FnExactRankComplete': WHATEVER THE INPUT: true; the input reads as it did. -/
def fnExactRankCompleteSpec : ChangeSpec := { name := "fnExactRankComplete", fn := fun _ => fun
  | [d1, d2] => { results := [.lit (.bool true)], args := [d1, d2] }
  | _ => none }
def fnExactRankCompleteRow : OpenClaim := { program := "ytimpgbifnijkkab", sum := "bafeebd6881ed297f3aa9135ff6ba06bca1422e658a7049bb378950bf3a6f364", func := "loop.example/g01163/laws.FnExactRankComplete", spec := "fnExactRankComplete", unfollowed := true, recurses := true, plainKeys := false, apart := false }
def FnExactRankCompleteSaid : Prop := fnExactRankCompleteRow.holds Try.pinned (OpenSpec.ofChange fnExactRankCompleteSpec)

/-- ITS FALSE NEIGHBOUR: 'it returns false'. Refute it at one input. -/
def fnExactRankCompleteWrong : ChangeSpec := { name := "fnExactRankComplete", fn := fun _ => fun
  | [d1, d2] => { results := [.lit (.bool false)], args := [d1, d2] }
  | _ => none }
def FnExactRankCompleteWrongFalsely : Prop := fnExactRankCompleteRow.holds Try.pinned (OpenSpec.ofChange fnExactRankCompleteWrong)

/-- 'laws.FnExactAreOrthogonal': WHATEVER THE INPUT: true; the input reads as it did. -/
def fnExactAreOrthogonalSpec : ChangeSpec := { name := "fnExactAreOrthogonal", fn := fun _ => fun
  | [d1, d2] => { results := [.lit (.bool true)], args := [d1, d2] }
  | _ => none }
def fnExactAreOrthogonalRow : OpenClaim := { program := "ytimpgbifnijkkab", sum := "bafeebd6881ed297f3aa9135ff6ba06bca1422e658a7049bb378950bf3a6f364", func := "loop.example/g01163/laws.FnExactAreOrthogonal", spec := "fnExactAreOrthogonal", unfollowed := true, recurses := true, plainKeys := false, apart := false }
def FnExactAreOrthogonalSaid : Prop := fnExactAreOrthogonalRow.holds Try.pinned (OpenSpec.ofChange fnExactAreOrthogonalSpec)

/-- ITS FALSE NEIGHBOUR: 'it returns false'. Refute it at one input. -/
def fnExactAreOrthogonalWrong : ChangeSpec := { name := "fnExactAreOrthogonal", fn := fun _ => fun
  | [d1, d2] => { results := [.lit (.bool false)], args := [d1, d2] }
  | _ => none }
def FnExactAreOrthogonalWrongFalsely : Prop := fnExactAreOrthogonalRow.holds Try.pinned (OpenSpec.ofChange fnExactAreOrthogonalWrong)

/-- 'laws.FnCharactersMultiply': WHATEVER THE INPUT: true; the input reads as it did. -/
def fnCharactersMultiplySpec : ChangeSpec := { name := "fnCharactersMultiply", fn := fun _ => fun
  | [d1, d2] => { results := [.lit (.bool true)], args := [d1, d2] }
  | _ => none }
def fnCharactersMultiplyRow : OpenClaim := { program := "ytimpgbifnijkkab", sum := "bafeebd6881ed297f3aa9135ff6ba06bca1422e658a7049bb378950bf3a6f364", func := "loop.example/g01163/laws.FnCharactersMultiply", spec := "fnCharactersMultiply", unfollowed := true, recurses := true, plainKeys := false, apart := false }
def FnCharactersMultiplySaid : Prop := fnCharactersMultiplyRow.holds Try.pinned (OpenSpec.ofChange fnCharactersMultiplySpec)

/-- ITS FALSE NEIGHBOUR: 'it returns false'. Refute it at one input. -/
def fnCharactersMultiplyWrong : ChangeSpec := { name := "fnCharactersMultiply", fn := fun _ => fun
  | [d1, d2] => { results := [.lit (.bool false)], args := [d1, d2] }
  | _ => none }
def FnCharactersMultiplyWrongFalsely : Prop := fnCharactersMultiplyRow.holds Try.pinned (OpenSpec.ofChange fnCharactersMultiplyWrong)

/- THE SECOND FORM. 'bulk': how many values and letters a reading holds, each counted each time it is reached (what is shared counts as often as it is met; a slice's spare places count too). A statement '..UptoSaid' is the law's where the arguments, and the package variables that the reading takes, are together of bulk at most 1048576: NARROWER than '..Said'. Prove '..Said' where nothing that the law and all that it calls make is longer than what came in: it says more and counts as full. Else prove '..UptoSaid'. A law counts once. -/
mutual
def uptoBulk {H : Type} : DataW H → Nat
  | .lit (.string bytes) => bytes.length + 1
  | .lit _ => 1
  | .nil => 1
  | .ptr d => uptoBulk d + 1
  | .slice elems spare => uptoBulkAll elems + uptoBulkAll spare + 1
  | .agg parts => uptoBulkAll parts + 1
  | .iface _ d => uptoBulk d + 1
  | .map entries => uptoBulkEntries entries + 1
  | .held _ => 1
def uptoBulkAll {H : Type} : List (DataW H) → Nat
  | [] => 0
  | d :: r => uptoBulk d + uptoBulkAll r
def uptoBulkEntries {H : Type} : List (Lit × DataW H) → Nat
  | [] => 0
  | x :: r => uptoBulkEntry x + uptoBulkEntries r
def uptoBulkEntry {H : Type} : Lit × DataW H → Nat
  | (.string bytes, d) => bytes.length + uptoBulk d + 1
  | (_, d) => uptoBulk d + 1
 end
def uptoSmall : (H : Type) → List (DataW H) → Bool := fun _ ds => decide (uptoBulkAll ds ≤ 1048576)
def OpenSpec.upto (s : _root_.Go.ChangeSpec) : _root_.Go.OpenSpec := { _root_.Go.OpenSpec.ofChange s with cond := some uptoSmall }

/-- 'laws.FnExactCountComplete', WHERE WHAT IT READS IS OF BULK AT MOST 1048576: true; the input reads as it did. -/
def fnExactCountCompleteUptoRow : OpenClaim := { program := "ytimpgbifnijkkab", sum := "bafeebd6881ed297f3aa9135ff6ba06bca1422e658a7049bb378950bf3a6f364", func := "loop.example/g01163/laws.FnExactCountComplete", spec := "fnExactCountComplete", unfollowed := true, recurses := true, plainKeys := false, apart := false, narrowed := true }
def FnExactCountCompleteUptoSaid : Prop := fnExactCountCompleteUptoRow.holds Try.pinned (OpenSpec.upto fnExactCountCompleteSpec)

/-- 'laws.FnExactCompleteWith', WHERE WHAT IT READS IS OF BULK AT MOST 1048576: true; the input reads as it did. -/
def fnExactCompleteWithUptoRow : OpenClaim := { program := "ytimpgbifnijkkab", sum := "bafeebd6881ed297f3aa9135ff6ba06bca1422e658a7049bb378950bf3a6f364", func := "loop.example/g01163/laws.FnExactCompleteWith", spec := "fnExactCompleteWith", unfollowed := true, recurses := true, plainKeys := false, apart := false, narrowed := true }
def FnExactCompleteWithUptoSaid : Prop := fnExactCompleteWithUptoRow.holds Try.pinned (OpenSpec.upto fnExactCompleteWithSpec)

/-- 'laws.FnExactRankComplete', WHERE WHAT IT READS IS OF BULK AT MOST 1048576: true; the input reads as it did. -/
def fnExactRankCompleteUptoRow : OpenClaim := { program := "ytimpgbifnijkkab", sum := "bafeebd6881ed297f3aa9135ff6ba06bca1422e658a7049bb378950bf3a6f364", func := "loop.example/g01163/laws.FnExactRankComplete", spec := "fnExactRankComplete", unfollowed := true, recurses := true, plainKeys := false, apart := false, narrowed := true }
def FnExactRankCompleteUptoSaid : Prop := fnExactRankCompleteUptoRow.holds Try.pinned (OpenSpec.upto fnExactRankCompleteSpec)

/-- 'laws.FnExactAreOrthogonal', WHERE WHAT IT READS IS OF BULK AT MOST 1048576: true; the input reads as it did. -/
def fnExactAreOrthogonalUptoRow : OpenClaim := { program := "ytimpgbifnijkkab", sum := "bafeebd6881ed297f3aa9135ff6ba06bca1422e658a7049bb378950bf3a6f364", func := "loop.example/g01163/laws.FnExactAreOrthogonal", spec := "fnExactAreOrthogonal", unfollowed := true, recurses := true, plainKeys := false, apart := false, narrowed := true }
def FnExactAreOrthogonalUptoSaid : Prop := fnExactAreOrthogonalUptoRow.holds Try.pinned (OpenSpec.upto fnExactAreOrthogonalSpec)

/-- 'laws.FnCharactersMultiply', WHERE WHAT IT READS IS OF BULK AT MOST 1048576: true; the input reads as it did. -/
def fnCharactersMultiplyUptoRow : OpenClaim := { program := "ytimpgbifnijkkab", sum := "bafeebd6881ed297f3aa9135ff6ba06bca1422e658a7049bb378950bf3a6f364", func := "loop.example/g01163/laws.FnCharactersMultiply", spec := "fnCharactersMultiply", unfollowed := true, recurses := true, plainKeys := false, apart := false, narrowed := true }
def FnCharactersMultiplyUptoSaid : Prop := fnCharactersMultiplyUptoRow.holds Try.pinned (OpenSpec.upto fnCharactersMultiplySpec)

end Rows
end Go.Proofs.Ytimpgbifnijkkab
