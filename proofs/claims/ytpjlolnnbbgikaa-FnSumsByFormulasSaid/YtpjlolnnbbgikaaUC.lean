/- What FnSumsByFormulas asks of its draws, as contracts. -/
import Derived.Test.YtpjlolnnbbgikaaUA
import Derived.Test.YtpjlolnnbbgikaaTY
import Derived.Test.YtpjlolnnbbgikaaN
import Derived.Test.YtpjlolnnbbgikaaO
namespace Go.Proofs.Ytpjlolnnbbgikaa
open Go.RowKit
theorem sl_three {w : World} {o : Obj} {T : TypeId} (c b a : Int) (ho : o = Obj.cells #[.int .i64 c, .int .i64 b, .int .i64 a] T (0, 0)) : Sl (w.alloc o) (.slice (some ⟨w.heap.size, 0, none⟩) 3 3) [c, b, a] := by
  refine .inr ⟨w.heap.size, 0, 3, rfl, by simp, fun j hj => ?_⟩
  rw [Nat.zero_add, cell_of_row _ w.heap.size j _ T (0, 0) (by rw [heap_alloc_new, ho])]
  match j, hj with
  | 0, _ => rfl
  | 1, _ => rfl
  | 2, _ => rfl
theorem ask_Quadratic (q a b c : Int) : ∃ (s : Int) (o : Bool),
    (∀ w, Calls Try.prog 6 #[.int .i64 q, .int .i64 a, .int .i64 b, .int .i64 c] w fun e w' => e = .returned (.tuple #[.int .i64 s, .bool o]) ∧ Below w.heap.size w w') ∧
    (∀ w, Calls Try.prog 7 #[.int .i64 q, .int .i64 a, .int .i64 b, .int .i64 c] w fun e w' => e = .returned (.tuple #[.int .i64 s, .bool o]) ∧ Below w.heap.size w w') ∧
    (o = true → ∃ f : List Int,
      (∀ w v, Sl w v [c, b, a] → Calls Try.prog 8 #[.int .i64 q, v] w fun e w' => ∃ v', e = .returned (.tuple #[v', .bool true]) ∧ Row w' w.heap.size v' f ∧ Below w.heap.size w w') ∧
      (∀ w v, Sl w v f → Calls Try.prog 9 #[.int .i64 q, v] w fun e w' => e = .returned (.tuple #[.int .i64 s, .bool true]) ∧ Below w.heap.size w w')) := by
  cases h : qok q a b c with
  | false => exact ⟨0, false, fun w => impl_QuadraticSum_no q a b c w h, fun w => spec_QuadraticSum_no q a b c w h, fun e => by cases e⟩
  | true =>
    obtain ⟨m, rfl, hs, ho, ha, hb, hc⟩ := qok_nat h
    obtain ⟨hae, _, a0, _⟩ := inN_yes ha
    have ea := inE_el hae
    have eb := inE_el hb
    have ec := inE_el hc
    have e0 : a ≠ 0 := by omega
    have hg := quad_good hs ho ea e0 eb ec
    refine ⟨qds m a b c, true, fun w => impl_QuadraticSum_yes m a b c w hs ho ha hb hc, fun w => ?_, fun _ => ⟨[c, b, a], fun w v hv => ?_, fun w v hv => ?_⟩⟩
    · unfold qds
      by_cases hd : mulF m b b = tim m (mulF m a c) 4
      · rw [if_pos hd]
        exact spec_QuadraticSum_told m a b c w hs ho ha hb hc hd
      · rw [if_neg hd]
        exact spec_QuadraticSum_other m a b c w hs ho ha hb hc hd
    · have := impl_ReducePoly_yes m v [c, b, a] w hs hv (by simp) (good_parts hg).2
      rw [show ([c, b, a] : List Int).length = 3 from rfl, quad_red hs ho ea e0 eb ec] at this
      exact this
    · have := impl_CharacterSum_yes m v [c, b, a] w hs ho hv hg
      rw [quad_chs hs ho ea e0 eb ec] at this
      exact this
def TM (q x y z : Int) : Prop := ∀ w, Calls Try.prog 15 #[.int .i64 q, .int .i64 x, .int .i64 y] w fun e w' => e = .returned (.tuple #[.int .i64 z, .bool true]) ∧ Below w.heap.size w w'
def PM (q x y z : Int) : Prop := ∀ w, Calls Try.prog 16 #[.int .i64 q, .int .i64 x, .int .i64 y] w fun e w' => e = .returned (.tuple #[.int .i64 z, .bool true]) ∧ Below w.heap.size w w'
theorem inE_ofU {q x : Int} (h : isSz q = true) (hx : El q x) : inE q x = true := by
  simp [inE, h, hx.1, hx.2]
theorem ask_Squares (r d : Int) : ∃ (s t : Int) (o : Bool),
    (∀ w, Calls Try.prog 11 #[.int .i64 r, .int .i64 d] w fun e w' => e = .returned (.tuple #[.int .i64 s, .bool o]) ∧ Below w.heap.size w w') ∧
    (∀ w, Calls Try.prog 12 #[.int .i64 r, .int .i64 d] w fun e w' => e = .returned (.tuple #[.int .i64 s, .bool o]) ∧ Below w.heap.size w w') ∧
    (∀ w, Calls Try.prog 13 #[.int .i64 r, .int .i64 d] w fun e w' => e = .returned (.tuple #[.int .i64 t, .bool o]) ∧ Below w.heap.size w w') ∧
    (∀ w, Calls Try.prog 14 #[.int .i64 r, .int .i64 d] w fun e w' => e = .returned (.tuple #[.int .i64 t, .bool o]) ∧ Below w.heap.size w w') ∧
    (o = true → ∃ (m : Nat) (A : Nat → Int) (X : Nat → Nat → Int), r = (m : Int) ∧ m ≤ 16 ∧ (∀ x, x < m → TM r (x : Int) (x : Int) (A x)) ∧ (∀ x y, x < m → y < m → PM r (A x) (A y) (X x y)) ∧
      csm (fun x => ncn (fun y => decide (X x y = d)) m) m = s ∧ t = if d = 0 then r - 1 else -1) := by
  cases h : ode r d with
  | false => exact ⟨0, 0, false, fun w => impl_CountSquareSums_no r d w h, fun w => spec_CountSquareSums_no r d w h, fun w => impl_ShiftedSum_no r d w h, fun w => spec_ShiftedSum_no r d w h, fun e => by cases e⟩
  | true =>
    obtain ⟨m, rfl, hs, ho, ha⟩ := ode_nat h
    have hq := isSz_le (m : Int) hs
    have ed := inE_el ha
    have ex : ∀ x : Nat, x < m → El (m : Int) (x : Int) := fun x hx => ⟨by omega, by omega⟩
    refine ⟨css m d, shs m d, true, fun w => impl_CountSquareSums_yes m d w hs ho ha, fun w => spec_CountSquareSums_yes m d w hs ho ha, fun w => impl_ShiftedSum_yes m d w hs ho ha, fun w => spec_ShiftedSum_yes m d w hs ho ha, fun _ => ⟨m, fun x => mulF m (x : Int) (x : Int), fun x y => addF m (mulF m (x : Int) (x : Int)) (mulF m (y : Int) (y : Int)), rfl, by omega, fun x hx w => ?_, fun x y hx hy w => ?_, css_all hs ho ed, shs_all hs ho ed⟩⟩
    · exact impl_TimesOf_yes _ _ _ w (inE_ofU hs (ex x hx)) (inE_ofU hs (ex x hx))
    · exact impl_PlusOf_yes _ _ _ w (inE_ofU hs ((ex x hx).mul hs (ex x hx))) (inE_ofU hs ((ex y hy).mul hs (ex y hy)))
theorem ask_Runs (q i j : Int) : ∃ (s : Int) (o : Bool),
    (∀ w, Calls Try.prog 18 #[.int .i64 q, .int .i64 i, .int .i64 j] w fun e w' => e = .returned (.tuple #[.int .i64 s, .bool o]) ∧ Below w.heap.size w w') ∧
    (∀ w, Calls Try.prog 19 #[.int .i64 q, .int .i64 i, .int .i64 j] w fun e w' => e = .returned (.tuple #[.int .i64 s, .bool o]) ∧ Below w.heap.size w w') ∧
    (o = true → ∃ (n g : Int),
      (∀ w, Calls Try.prog 20 #[.int .i64 q, .int .i64 0, .int .i64 1] w fun e w' => e = .returned (.tuple #[.int .i64 n, .bool true]) ∧ Below w.heap.size w w') ∧
      (∀ w, Calls Try.prog 21 #[.int .i64 q, .int .i64 n] w fun e w' => e = .returned (.tuple #[.int .i64 g, .bool true]) ∧ Below w.heap.size w w') ∧
      4 * s = q - 2 - j - i * g - i * j ∧ 0 ≤ q ∧ q ≤ 16 ∧ -1 ≤ j ∧ j ≤ 1 ∧ -1 ≤ i * g ∧ i * g ≤ 1 ∧ -1 ≤ i * j ∧ i * j ≤ 1) := by
  cases h : orq q i j with
  | false => exact ⟨0, false, fun w => impl_CountRuns_no q i j w h, fun w => spec_CountRuns_no q i j w h, fun e => by cases e⟩
  | true =>
    obtain ⟨m, rfl, hs, ho, h1, h2⟩ := orq_nat h
    have hq := isSz_le (m : Int) hs
    have e0 : El (m : Int) 0 := El.zero hs
    have e1 : El (m : Int) 1 := El.one hs
    have en := e0.sub hs e1
    refine ⟨_, true, fun w => impl_CountRuns_yes m i j w hs ho h1 h2, fun w => spec_CountRuns_yes m i j w hs ho h1 h2, fun _ => ⟨subF m 0 1, chi m (subF m 0 1), fun w => impl_LessOf_yes _ _ _ w (inE_ofU hs e0) (inE_ofU hs e1), fun w => impl_CharacterOf_yes m _ w hs ho (inE_ofU hs en), rns_all hs ho h1 h2, by omega, by omega, ?_⟩⟩
    have hg := chi_bd m (subF m 0 1)
    generalize chi m (subF m 0 1) = g at *
    simp only [sgn, Bool.or_eq_true, decide_eq_true_eq] at h1 h2
    rcases h1 with rfl | rfl <;> rcases h2 with rfl | rfl <;> omega
end Go.Proofs.Ytpjlolnnbbgikaa
