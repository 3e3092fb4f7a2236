/- What FnFieldsAdd asks of inverses, digits, sizes and moduli, as contracts. -/
import Derived.Test.YtaldlkokbpidiaaDT
namespace Go.Proofs.Ytaldlkokbpidiaa
open Go.RowKit
set_option maxRecDepth 100000 in
theorem inv_one {q x : Int} (h : isSz q = true) (hx : El q x) (h0 : x ≠ 0) : mulF q x (pw q x (q - 2).toNat) = 1 :=
  (of_decide_eq_true (of_chk1 (f := fun q x => decide (x = 0 ∨ mulF q x (pw q x (q - 2).toNat) = 1)) (by decide +kernel) q x h hx.1 hx.2)).resolve_left h0
theorem ask_Inverse (r x : Int) : ∃ (v : Int) (o o' : Bool) (L : List Int), L.length ≤ 1048576 ∧
    (∀ w, Calls Try.prog 17 #[.int .i64 r, .int .i64 x] w fun e w' => e = .returned (.tuple #[.int .i64 v, .bool o]) ∧ Below w.heap.size w w') ∧
    (∀ w, Calls Try.prog 18 #[.int .i64 r, .int .i64 x] w fun e w' => e = .returned (.tuple #[.int .i64 v, .bool o]) ∧ Below w.heap.size w w') ∧
    (∀ w, Calls Try.prog 15 #[.int .i64 r, .int .i64 x] w fun e w' => ∃ s, e = .returned (.tuple #[s, .bool o']) ∧ Row w' w.heap.size s L ∧ Below w.heap.size w w') ∧
    (∀ w, Calls Try.prog 19 #[.int .i64 r, .int .i64 x] w fun e w' => ∃ s, e = .returned (.tuple #[s, .bool o']) ∧ Row w' w.heap.size s L ∧ Below w.heap.size w w') ∧
    ((o = false ∧ o' = false) ∨ (o = false ∧ o' = true ∧ x = 0) ∨ (o = true ∧ o' = true ∧ 0 < x ∧ TT r x v 1)) := by
  have hL : (dgl r x).length ≤ 1048576 := by
    unfold dgl
    split
    · rename_i h
      have := plN_bd r (inE_yes h).1
      rw [digs_len]; omega
    · simp
  cases h : inE r x with
  | false =>
    refine ⟨0, false, false, dgl r x, hL, fun w => impl_InverseOf_no1 r x w h, fun w => spec_InverseOf_no1 r x w h, fun w => ?_, fun w => ?_, .inl ⟨rfl, rfl⟩⟩
    · have := impl_DigitsOf_any r x w; rwa [h] at this
    · have := spec_DigitsOf_any r x w; rwa [h] at this
  | true =>
    obtain ⟨hs, x0, x1⟩ := inE_yes h
    by_cases hx : x = 0
    · subst hx
      refine ⟨0, false, true, dgl r 0, hL, fun w => impl_InverseOf_no2 r w hs, fun w => spec_InverseOf_no2 r w h, fun w => ?_, fun w => ?_, .inr (.inl ⟨rfl, rfl, rfl⟩)⟩
      · have := impl_DigitsOf_any r 0 w; rwa [h] at this
      · have := spec_DigitsOf_any r 0 w; rwa [h] at this
    · have hn : inN r x = true := by simp [inN, h, hx]
      have hp := pw_bd r x hs x0 x1 (r - 2).toNat
      refine ⟨_, true, true, dgl r x, hL, fun w => impl_InverseOf_yes r x w hn, fun w => spec_InverseOf_yes r x w hn, fun w => ?_, fun w => ?_, .inr (.inr ⟨rfl, rfl, by omega, TT.of hs ⟨x0, x1⟩ hp (inv_one hs ⟨x0, x1⟩ hx)⟩)⟩
      · have := impl_DigitsOf_any r x w; rwa [h] at this
      · have := spec_DigitsOf_any r x w; rwa [h] at this
/-- The modulus at the element p, up to a coefficient. -/
def mat (s : Int) : Nat → Int
  | 0 => 0
  | i + 1 => addF s (mat s i) (mulF s ((mdlW s).getD i 0) (pw s (pr s) i))
set_option maxRecDepth 100000 in
theorem mat_facts {s : Int} (h : isSz s = true) : (mdlW s).length ≤ 5 ∧ (1 < pl s → pr s < s ∧ 0 < (mdlW s).length ∧ mat s (mdlW s).length = 0 ∧ ∀ i, i < (mdlW s).length → (0 ≤ (mdlW s).getD i 0 ∧ (mdlW s).getD i 0 < s)) := by
  have := of_decide_eq_true (of_chk1 (f := fun s _ => decide ((mdlW s).length ≤ 5 ∧ (1 < pl s → pr s < s ∧ 0 < (mdlW s).length ∧ mat s (mdlW s).length = 0 ∧ ∀ i ∈ List.range (mdlW s).length, (0 ≤ (mdlW s).getD i 0 ∧ (mdlW s).getD i 0 < s)))) (by decide +kernel) s 0 h (by omega) (by have := isSz_le s h; omega))
  exact ⟨this.1, fun h1 => ⟨(this.2 h1).1, (this.2 h1).2.1, (this.2 h1).2.2.1, fun i hi => (this.2 h1).2.2.2 i (List.mem_range.2 hi)⟩⟩
theorem mat_el {s : Int} (h : isSz s = true) (h1 : 1 < pl s) : ∀ i, i ≤ (mdlW s).length → El s (mat s i)
  | 0, _ => El.zero h
  | i + 1, hi => by
    obtain ⟨_, f⟩ := mat_facts h
    obtain ⟨p1, _, _, f3⟩ := f h1
    have hp := pr_bd s h
    exact (mat_el h h1 i (by omega)).add h ((show El s _ from f3 i (by omega)).mul h (El.pw h ⟨by omega, p1⟩ i))
theorem ask_Prime (s : Int) : ∃ (p k : Int) (o : Bool) (L : List Int), L.length ≤ 1048576 ∧
    (∀ w, Calls Try.prog 14 #[.int .i64 s] w fun e w' => e = .returned (.tuple #[.int .i64 p, .int .i64 k, .bool o]) ∧ Below w.heap.size w w') ∧
    (∀ w, Calls Try.prog 22 #[.int .i64 s] w fun e w' => e = .returned (.tuple #[.int .i64 p, .int .i64 k, .bool o]) ∧ Below w.heap.size w w') ∧
    (∀ w, Calls Try.prog 23 #[.int .i64 s] w fun e w' => ∃ v, e = .returned (.tuple #[v, .bool o]) ∧ Row w' w.heap.size v L ∧ Below w.heap.size w w') ∧
    (∀ w, Calls Try.prog 24 #[.int .i64 s] w fun e w' => ∃ v, e = .returned (.tuple #[v, .bool o]) ∧ Row w' w.heap.size v L ∧ Below w.heap.size w w') ∧
    (∀ w, Calls Try.prog 25 #[.int .i64 s] w fun e w' => e = .returned (.bool o) ∧ Below w.heap.size w w') ∧
    (∀ w, Calls Try.prog 26 #[.int .i64 s] w fun e w' => e = .returned (.bool o) ∧ Below w.heap.size w w') ∧
    (o = true → 1 < k → 0 < L.length ∧ ∃ (A P X : Nat → Int), A 0 = 0 ∧ P 0 = 1 ∧ A L.length = 0 ∧ ∀ i, i < L.length → TT s (L.getD i 0) (P i) (X i) ∧ PP s (A i) (X i) (A (i + 1)) ∧ TT s (P i) p (P (i + 1))) := by
  cases h : isSz s with
  | false =>
    refine ⟨0, 0, false, [], by simp, fun w => impl_PrimeOf_no s w h, fun w => spec_PrimeOf_no s w h, fun w => (impl_ModulusOf_no s w h).mono fun _ _ ⟨he, hb⟩ => ⟨_, he, Row.nil _ _, hb⟩, fun w => (spec_ModulusOf_no s w h).mono fun _ _ ⟨he, hb⟩ => ⟨_, he, Row.nil _ _, hb⟩, fun w => ?_, fun w => ?_, fun e => by cases e⟩
    · have := impl_IsSize s w; rwa [h] at this
    · have := spec_IsSize s w; rwa [h] at this
  | true =>
    obtain ⟨f1, f2⟩ := mat_facts h
    refine ⟨pr s, pl s, true, mdlW s, by omega, fun w => impl_PrimeOf_yes s w h, fun w => spec_PrimeOf_yes s w h, fun w => impl_ModulusOf_yes s w h, fun w => spec_ModulusOf_yes s w h, fun w => ?_, fun w => ?_, fun _ h1 => ?_⟩
    · have := impl_IsSize s w; rwa [h] at this
    · have := spec_IsSize s w; rwa [h] at this
    · obtain ⟨p1, f0, f3, f4⟩ := f2 h1
      have hp := pr_bd s h
      have eP : El s (pr s) := ⟨by omega, p1⟩
      exact ⟨f0, mat s, pw s (pr s), fun i => mulF s ((mdlW s).getD i 0) (pw s (pr s) i), rfl, rfl, f3, fun i hi => ⟨TT.of h (f4 i hi) (El.pw h eP i) rfl, PP.of h (mat_el h h1 i (by omega)) ((show El s _ from f4 i hi).mul h (El.pw h eP i)) rfl, TT.of h (El.pw h eP i) eP rfl⟩⟩
theorem big_yes' (a0 a1 : Option Addr) (n0 c0 n1 c1 : Nat) (w : World) (h : ¬ n0 + n1 ≤ 1048576) :
    Calls Try.prog 4 #[.slice a0 n0 c0, .slice a1 n1 c1] w fun e w' => e = .returned (.bool true) ∧ w = w' := by
  by_cases h0 : 1048576 < n0
  · have h1 : (1048576 : Int) < (n0 : Int) := by omega
    go_enter Try.func4, Try.ntmps4
    go_wp2
    go_ret
    exact ⟨by first | rfl | simp [h1], by first | rfl | trivial⟩
  · have h1 : ¬ (1048576 : Int) < (n0 : Int) := by omega
    have h2 : (1048576 : Int) - (n0 : Int) < (n1 : Int) := by omega
    have hw : IntKind.i64.wrap (1048576 - (n0 : Int)) = 1048576 - (n0 : Int) := IntWalk.i64_in _ (by omega)
    go_enter Try.func4, Try.ntmps4
    go_wp2
    go_ret
    exact ⟨by first | rfl | simp [h2], by first | rfl | trivial⟩
end Go.Proofs.Ytaldlkokbpidiaa
