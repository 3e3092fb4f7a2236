/- What the general law FnPowersPermute asks, by contracts. -/
import Derived.Test.YtapglncgicfjnabGreatZK
import Derived.Test.YtapglncgicfjnabGreatZJ
import Derived.Test.YtapglncgicfjnabGreatKR
import Derived.Test.YtapglncgicfjnabGreatNC
import Derived.Test.YtapglncgicfjnabGreatNI
import Derived.Test.YtapglncgicfjnabGreatBB
namespace Go.Proofs.YtapglncgicfjnabGreat
open Go.RowKit
theorem npm_noDiv (n d : Nat) : npm n d = noDiv n d := rfl
theorem inE_ofL {q x : Int} (h : isSz q = true) (hx : El q x) : inE q x = true := by
  simp [inE, h, hx.1, hx.2]
theorem cpc_bd (r k : Nat) : (0 : Int) ≤ (cpc r k : Nat) ∧ ((cpc r k : Nat) : Int) ≤ (k : Int) := by
  have := cpc_le r k
  omega
/-- What the law asks of powers. -/
theorem ask_PowersP (q n : Int) : ∃ (is : Bool) (F : List Int) (cnt : Int) (o o3 : Bool), F.length ≤ 1048576 ∧
    (∀ w, Calls Tryz.prog 23 #[.int .i64 q, .int .i64 n] w fun e w' => e = .returned (.tuple #[.bool is, .bool o]) ∧ Below w.heap.size w w') ∧
    (∀ w, Calls Tryz.prog 24 #[.int .i64 q, .int .i64 n] w fun e w' => e = .returned (.tuple #[.bool is, .bool o]) ∧ Below w.heap.size w w') ∧
    (∀ w, Calls Tryz.prog 25 #[.int .i64 q, .int .i64 n] w fun e w' => ∃ v, e = .returned (.tuple #[v, .bool o]) ∧ Row w' w.heap.size v F ∧ Below w.heap.size w w') ∧
    (∀ w, Calls Tryz.prog 26 #[.int .i64 q, .int .i64 n] w fun e w' => ∃ v, e = .returned (.tuple #[v, .bool o]) ∧ Row w' w.heap.size v F ∧ Below w.heap.size w w') ∧
    (∀ w, Calls Tryz.prog 27 #[.int .i64 q] w fun e w' => e = .returned (.tuple #[.int .i64 cnt, .bool o3]) ∧ Below w.heap.size w w') ∧
    (∀ w, Calls Tryz.prog 28 #[.int .i64 q] w fun e w' => e = .returned (.tuple #[.int .i64 cnt, .bool o3]) ∧ Below w.heap.size w w') ∧
    (∀ w, Calls Tryz.prog 29 #[.int .i64 q] w fun e w' => e = .returned (.bool o3) ∧ Below w.heap.size w w') ∧
    (o = true → ∃ (m : Nat) (X : Nat → Int) (P : Nat → Bool) (C : Nat → Int), q = (m : Int) ∧ 2 ≤ m ∧ m ≤ 16 ∧
      (∀ w v, Sl w v F → Calls Tryz.prog 30 #[.int .i64 q, v] w fun e w' => e = .returned (.bool is) ∧ Below w.heap.size w w') ∧
      (∀ x w v, x < m → Sl w v F → Calls Tryz.prog 31 #[.int .i64 q, v, .int .i64 (x : Int)] w fun e w' => e = .returned (.tuple #[.int .i64 (X x), .bool true]) ∧ Below w.heap.size w w') ∧
      (∀ x w, x < m → Calls Tryz.prog 32 #[.int .i64 q, .int .i64 (x : Int), .int .i64 n] w fun e w' => e = .returned (.tuple #[.int .i64 (X x), .bool true]) ∧ Below w.heap.size w w') ∧
      C 1 = 0 ∧ C m = cnt ∧
      (∀ k w, 1 ≤ k → k < m → Calls Tryz.prog 23 #[.int .i64 q, .int .i64 (k : Int)] w fun e w' => e = .returned (.tuple #[.bool (P k), .bool true]) ∧ Below w.heap.size w w') ∧
      (∀ k, 1 ≤ k → k < m → (0 ≤ C k ∧ C k ≤ 16) ∧ (P k = true → C (k + 1) = C k + 1) ∧ (P k = false → C (k + 1) = C k))) := by
  have HIS := fun w => impl_IsSize q w
  cases hd : isSz q && okE n with
  | false =>
    cases hs : isSz q with
    | false =>
      rw [hs] at HIS
      exact ⟨false, [], 0, false, false, by simp, fun w => impl_PowerPermutes_no q n w hd, fun w => spec_PowerPermutes_no q n w hd, fun w => (impl_PowerOfX_no q n w hd).mono fun _ _ ⟨he, hb⟩ => ⟨_, he, Row.nil _ _, hb⟩, fun w => (spec_PowerOfX_no q n w hd).mono fun _ _ ⟨he, hb⟩ => ⟨_, he, Row.nil _ _, hb⟩,
        fun w => impl_CountPermutingPowers_no q w hs, fun w => spec_CountPermutingPowers_no q w hs, HIS, fun e => by cases e⟩
    | true =>
      rw [hs] at HIS
      have hq := isSz_le q hs
      obtain ⟨m, rfl⟩ := Int.eq_ofNat_of_zero_le (show 0 ≤ q by omega)
      exact ⟨false, [], _, false, true, by simp, fun w => impl_PowerPermutes_no _ n w hd, fun w => spec_PowerPermutes_no _ n w hd, fun w => (impl_PowerOfX_no _ n w hd).mono fun _ _ ⟨he, hb⟩ => ⟨_, he, Row.nil _ _, hb⟩, fun w => (spec_PowerOfX_no _ n w hd).mono fun _ _ ⟨he, hb⟩ => ⟨_, he, Row.nil _ _, hb⟩,
        fun w => impl_CountPermutingPowers_yes m w hs, fun w => spec_CountPermutingPowers_yes m w hs, HIS, fun e => by cases e⟩
  | true =>
    obtain ⟨m, k, rfl, rfl, h, hk⟩ := asked_nat hd
    rw [h] at HIS
    have hq := isSz_le (m : Int) h
    have ht : ∀ i, i < m → El (m : Int) (pw (m : Int) (i : Int) k) := fun i hi => pw_bd (m : Int) (i : Int) h (by omega) (by omega) k
    refine ⟨npm k (m - 1), ptl m (fun a => pw m (a : Int) k), _, true, true, ptl_le h ht, fun w => impl_PowerPermutes_yes m k w h hk, fun w => spec_PowerPermutes_yes m k w h hk, fun w => impl_PowerOfX_yes m k w h hk, fun w => spec_PowerOfX_yes m k w h hk,
      fun w => impl_CountPermutingPowers_yes m w h, fun w => spec_CountPermutingPowers_yes m w h, HIS, fun _ =>
      ⟨m, fun x => pw (m : Int) (x : Int) k, fun j => npm j (m - 1), fun j => (cpc (m - 1) (j - 1) : Nat), rfl, by omega, by omega, fun w v hv => ?_, fun x w v hx hv => ?_, fun x w hx => ?_, rfl, rfl, fun j w j1 j2 => impl_PowerPermutes_yes m j w h (by omega), fun j j1 j2 => ?_⟩⟩
    · have := tPermutes_ptl h ht v w hv
      rw [dis_pw h k] at this
      exact this
    · have := impl_ValueAt_yes (m : Int) (x : Int) v _ w hv h (ptl_goodZ h ht) (inE_ofL h (El.nat hx))
      rw [ptl_horZ h ht (El.nat hx), Int.toNat_natCast] at this
      exact this
    · have := impl_PowerOf_pos (m : Int) (x : Int) (k : Int) w (inE_ofL h (El.nat hx)) (by omega) (by omega)
      unfold powR at this
      rw [if_neg (by omega), Int.toNat_natCast] at this
      exact this
    · obtain ⟨i, rfl⟩ : ∃ i, j = i + 1 := ⟨j - 1, by omega⟩
      have hb := cpc_bd (m - 1) i
      dsimp only
      rw [Nat.add_sub_cancel, Nat.add_sub_cancel]
      refine ⟨⟨hb.1, by omega⟩, fun e => ?_, fun e => ?_⟩
      · rw [cpc_yes e]; omega
      · rw [cpc_no e]
/-- What the law asks of Dickson's polynomials. -/
theorem ask_DicksP (q n a : Int) : ∃ (is : Bool) (F : List Int) (o : Bool), F.length ≤ 1048576 ∧
    (∀ w, Calls Tryz.prog 34 #[.int .i64 q, .int .i64 n, .int .i64 a] w fun e w' => e = .returned (.tuple #[.bool is, .bool o]) ∧ Below w.heap.size w w') ∧
    (∀ w, Calls Tryz.prog 35 #[.int .i64 q, .int .i64 n, .int .i64 a] w fun e w' => e = .returned (.tuple #[.bool is, .bool o]) ∧ Below w.heap.size w w') ∧
    (∀ w, Calls Tryz.prog 36 #[.int .i64 q, .int .i64 n, .int .i64 a] w fun e w' => ∃ v, e = .returned (.tuple #[v, .bool o]) ∧ Row w' w.heap.size v F ∧ Below w.heap.size w w') ∧
    (∀ w, Calls Tryz.prog 37 #[.int .i64 q, .int .i64 n, .int .i64 a] w fun e w' => ∃ v, e = .returned (.tuple #[v, .bool o]) ∧ Row w' w.heap.size v F ∧ Below w.heap.size w w') ∧
    (o = true → ∀ w v, Sl w v F → Calls Tryz.prog 30 #[.int .i64 q, v] w fun e w' => e = .returned (.bool is) ∧ Below w.heap.size w w') := by
  cases hd : (isSz q && okE n) && inE q a with
  | false =>
    exact ⟨false, [], false, by simp, fun w => impl_DicksonPermutes_no q n a w hd, fun w => spec_DicksonPermutes_no q n a w hd, fun w => (impl_DicksonOf_no q n a w hd).mono fun _ _ ⟨he, hb⟩ => ⟨_, he, Row.nil _ _, hb⟩, fun w => (spec_DicksonOf_no q n a w hd).mono fun _ _ ⟨he, hb⟩ => ⟨_, he, Row.nil _ _, hb⟩, fun e => by cases e⟩
  | true =>
    obtain ⟨m, k, rfl, rfl, ha, hk⟩ := asked2_nat hd
    have h := (inE_yes ha).1
    have ea : El (m : Int) a := ⟨(inE_yes ha).2.1, (inE_yes ha).2.2⟩
    have ht : ∀ i, i < m → El (m : Int) (dkt m a k i) := fun i hi => dkt_el h ea k i hi
    refine ⟨npm k (dkm m a), ptl m (dkt m a k), true, ptl_le h ht, fun w => impl_DicksonPermutes_yes m k a w ha hk, fun w => spec_DicksonPermutes_yes m k a w ha hk, fun w => impl_DicksonOf_yes m k a w ha hk, fun w => spec_DicksonOf_yes m k a w ha hk, fun _ w v hv => ?_⟩
    have := tPermutes_ptl h ht v w hv
    rw [dis_dkt h ea hk] at this
    exact this
end Go.Proofs.YtapglncgicfjnabGreat
