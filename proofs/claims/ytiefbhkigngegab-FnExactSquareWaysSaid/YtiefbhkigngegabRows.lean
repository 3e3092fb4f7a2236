/-
  No cell of these rows narrows 'for every input' (looked for: loops, veiled, ifaces, maps, wideKeys, modest, calm, conditions, laid).
  DERIVED. THE GIVEN ROWS OF THIS SEAT. 3 by the template 'for every input the law returns true; each argument reads behind the call as it read before'; 0 by the template 'total and deterministic' (their statements: YtiefbhkigngegabTotals.lean).
  GIVEN WITH THE SEED: the statements are not yours to turn. If you find one false, say at which input.
  Laid BY PROGRAM, IN A SANDBOX (cutbox-rows.mjs): the forced cells as the released guide's own fill.sh prints them over the translation 956a123ad30ac789… (all of the seat's roots in one cut). By AI agents, Wed Nov 11 2026. No macro, syntax, notation, axiom, sorry.
-/
import Derived.Test.YtiefbhkigngegabChecked
import GoSem.Claim
import GoSem.ClaimJoined
import GoSem.ClaimMapViews
import Derived.JoinedTies
import Derived.KernelRfl
namespace Go.Proofs.Ytiefbhkigngegab
/- THE CELL 'sum', in the pinned program and in every row, IS THE sha256 OF THE DUMP (.gsa) THAT YtiefbhkigngegabProg.lean LOADS. Nothing in Lean hashes anything: it is a label: what it is worth is what the hold of that sum in a sandbox is worth. -/
noncomputable def Try.pinned : Pinned := { name := "ytiefbhkigngegab", sum := "956a123ad30ac789c30c47ecf6ce62fa5f18aec481b026e5c3cc9d9f2bbbf69e", checked := Try.checked }
namespace Rows
def none {H : Type} : Left H := { results := [], args := [] }

/-- 'laws.FnExactAsIndexed': WHATEVER THE INPUT: true; the input reads as it did. -/
def fnExactAsIndexedSpec : ChangeSpec := { name := "fnExactAsIndexed", fn := fun _ => fun
  | [d1, d2] => { results := [.lit (.bool true)], args := [d1, d2] }
  | _ => none }
def fnExactAsIndexedRow : OpenClaim := { program := "ytiefbhkigngegab", sum := "956a123ad30ac789c30c47ecf6ce62fa5f18aec481b026e5c3cc9d9f2bbbf69e", func := "loop.example/g01163/laws.FnExactAsIndexed", spec := "fnExactAsIndexed", unfollowed := true, recurses := true, apart := false }
def FnExactAsIndexedSaid : Prop := fnExactAsIndexedRow.holds Try.pinned (OpenSpec.ofChange fnExactAsIndexedSpec)

/-- ITS FALSE NEIGHBOUR: 'it returns false'. Refute it at one input. -/
def fnExactAsIndexedWrong : ChangeSpec := { name := "fnExactAsIndexed", fn := fun _ => fun
  | [d1, d2] => { results := [.lit (.bool false)], args := [d1, d2] }
  | _ => none }
def FnExactAsIndexedWrongFalsely : Prop := fnExactAsIndexedRow.holds Try.pinned (OpenSpec.ofChange fnExactAsIndexedWrong)

/-- 'laws.FnExactSquareWays': WHATEVER THE INPUT: true; the input reads as it did. -/
def fnExactSquareWaysSpec : ChangeSpec := { name := "fnExactSquareWays", fn := fun _ => fun
  | [d1, d2, d3] => { results := [.lit (.bool true)], args := [d1, d2, d3] }
  | _ => none }
def fnExactSquareWaysRow : OpenClaim := { program := "ytiefbhkigngegab", sum := "956a123ad30ac789c30c47ecf6ce62fa5f18aec481b026e5c3cc9d9f2bbbf69e", func := "loop.example/g01163/laws.FnExactSquareWays", spec := "fnExactSquareWays", unfollowed := true, recurses := true, apart := false }
def FnExactSquareWaysSaid : Prop := fnExactSquareWaysRow.holds Try.pinned (OpenSpec.ofChange fnExactSquareWaysSpec)

/-- ITS FALSE NEIGHBOUR: 'it returns false'. Refute it at one input. -/
def fnExactSquareWaysWrong : ChangeSpec := { name := "fnExactSquareWays", fn := fun _ => fun
  | [d1, d2, d3] => { results := [.lit (.bool false)], args := [d1, d2, d3] }
  | _ => none }
def FnExactSquareWaysWrongFalsely : Prop := fnExactSquareWaysRow.holds Try.pinned (OpenSpec.ofChange fnExactSquareWaysWrong)

/-- 'laws.FnExactSquareWaysPermute': WHATEVER THE INPUT: true; the input reads as it did. -/
def fnExactSquareWaysPermuteSpec : ChangeSpec := { name := "fnExactSquareWaysPermute", fn := fun _ => fun
  | [d1, d2, d3] => { results := [.lit (.bool true)], args := [d1, d2, d3] }
  | _ => none }
def fnExactSquareWaysPermuteRow : OpenClaim := { program := "ytiefbhkigngegab", sum := "956a123ad30ac789c30c47ecf6ce62fa5f18aec481b026e5c3cc9d9f2bbbf69e", func := "loop.example/g01163/laws.FnExactSquareWaysPermute", spec := "fnExactSquareWaysPermute", apart := false }
def FnExactSquareWaysPermuteSaid : Prop := fnExactSquareWaysPermuteRow.holds Try.pinned (OpenSpec.ofChange fnExactSquareWaysPermuteSpec)

/-- ITS FALSE NEIGHBOUR: 'it returns false'. Refute it at one input. -/
def fnExactSquareWaysPermuteWrong : ChangeSpec := { name := "fnExactSquareWaysPermute", fn := fun _ => fun
  | [d1, d2, d3] => { results := [.lit (.bool false)], args := [d1, d2, d3] }
  | _ => none }
def FnExactSquareWaysPermuteWrongFalsely : Prop := fnExactSquareWaysPermuteRow.holds Try.pinned (OpenSpec.ofChange fnExactSquareWaysPermuteWrong)

/- THE SECOND FORM. 'bulk': how many values and letters a reading holds, each counted each time it is reached (what is shared counts as often as it is met; a slice's spare places count too). A statement '..UptoSaid' is the law's where the arguments, and the package variables that the reading takes, are together of bulk at most 1048576: NARROWER than '..Said'. Prove '..Said' where nothing that the law and all that it calls make is longer than what came in: it says more and counts as full. Else prove '..UptoSaid'. A law counts once. -/
mutual
def uptoBulk {H : Type} : DataW H → Nat
  | .lit (.string bytes) => bytes.length + 1
  | .lit _ => 1
  | .nil => 1
  | .ptr d => uptoBulk d + 1
  | .slice elems spare => uptoBulkAll elems + uptoBulkAll spare + 1
  | .agg parts => uptoBulkAll parts + 1
  | .iface _ d => uptoBulk d + 1
  | .map entries => uptoBulkEntries entries + 1
  | .held _ => 1
def uptoBulkAll {H : Type} : List (DataW H) → Nat
  | [] => 0
  | d :: r => uptoBulk d + uptoBulkAll r
def uptoBulkEntries {H : Type} : List (Lit × DataW H) → Nat
  | [] => 0
  | x :: r => uptoBulkEntry x + uptoBulkEntries r
def uptoBulkEntry {H : Type} : Lit × DataW H → Nat
  | (.string bytes, d) => bytes.length + uptoBulk d + 1
  | (_, d) => uptoBulk d + 1
 end
def uptoSmall : (H : Type) → List (DataW H) → Bool := fun _ ds => decide (uptoBulkAll ds ≤ 1048576)
def OpenSpec.upto (s : _root_.Go.ChangeSpec) : _root_.Go.OpenSpec := { _root_.Go.OpenSpec.ofChange s with cond := some uptoSmall }

/-- 'laws.FnExactAsIndexed', WHERE WHAT IT READS IS OF BULK AT MOST 1048576: true; the input reads as it did. -/
def fnExactAsIndexedUptoRow : OpenClaim := { program := "ytiefbhkigngegab", sum := "956a123ad30ac789c30c47ecf6ce62fa5f18aec481b026e5c3cc9d9f2bbbf69e", func := "loop.example/g01163/laws.FnExactAsIndexed", spec := "fnExactAsIndexed", unfollowed := true, recurses := true, apart := false, narrowed := true }
def FnExactAsIndexedUptoSaid : Prop := fnExactAsIndexedUptoRow.holds Try.pinned (OpenSpec.upto fnExactAsIndexedSpec)

/-- 'laws.FnExactSquareWays', WHERE WHAT IT READS IS OF BULK AT MOST 1048576: true; the input reads as it did. -/
def fnExactSquareWaysUptoRow : OpenClaim := { program := "ytiefbhkigngegab", sum := "956a123ad30ac789c30c47ecf6ce62fa5f18aec481b026e5c3cc9d9f2bbbf69e", func := "loop.example/g01163/laws.FnExactSquareWays", spec := "fnExactSquareWays", unfollowed := true, recurses := true, apart := false, narrowed := true }
def FnExactSquareWaysUptoSaid : Prop := fnExactSquareWaysUptoRow.holds Try.pinned (OpenSpec.upto fnExactSquareWaysSpec)

/-- 'laws.FnExactSquareWaysPermute', WHERE WHAT IT READS IS OF BULK AT MOST 1048576: true; the input reads as it did. -/
def fnExactSquareWaysPermuteUptoRow : OpenClaim := { program := "ytiefbhkigngegab", sum := "956a123ad30ac789c30c47ecf6ce62fa5f18aec481b026e5c3cc9d9f2bbbf69e", func := "loop.example/g01163/laws.FnExactSquareWaysPermute", spec := "fnExactSquareWaysPermute", apart := false, narrowed := true }
def FnExactSquareWaysPermuteUptoSaid : Prop := fnExactSquareWaysPermuteUptoRow.holds Try.pinned (OpenSpec.upto fnExactSquareWaysPermuteSpec)

end Rows
end Go.Proofs.Ytiefbhkigngegab
