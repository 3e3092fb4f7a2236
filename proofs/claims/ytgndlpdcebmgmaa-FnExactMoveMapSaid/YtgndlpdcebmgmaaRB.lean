/- Powers of the prime, and the polynomials with terms there alone: impl.field.primePowers, slices.Contains of numbers, impl.poly.isAdditiveFrom, isAdditive, isMoved, impl.validAdditive, by contracts. -/
import Derived.Test.YtgndlpdcebmgmaaRA
import Derived.Test.YtgndlpdcebmgmaaKP
import Derived.Test.YtgndlpdcebmgmaaKL
namespace Go.Proofs.Ytgndlpdcebmgmaa
open Go.RowKit
/-- The powers of the prime, as numbers. -/
def ppf (q : Int) : Nat → Int := fun i => (pp q i : Int)
theorem ppf_succ {q : Int} (h : isSz q = true) (i : Nat) : ppf q i * pr q = ppf q (i + 1) := by
  have hp := pr_bd q h
  show ((pr q).toNat ^ i : Nat) * pr q = (((pr q).toNat ^ (i + 1) : Nat) : Int)
  rw [Nat.pow_succ, Int.natCast_mul, Int.toNat_of_nonneg (by omega)]
theorem ppf_bd {q : Int} (h : isSz q = true) (i : Nat) (hi : i ≤ plN q) : 1 ≤ ppf q i ∧ ppf q i ≤ 16 := by
  have hq := isSz_le q h
  have hc := of_chk1 (f := fun q _ => (List.range (plN q + 1)).all fun i => decide (1 ≤ ppf q i ∧ ppf q i ≤ 16)) (by decide +kernel) q 0 h (by omega) (by omega)
  exact of_decide_eq_true (List.all_eq_true.1 hc i (List.mem_range.2 (by omega)))
theorem ppf_has (q : Int) (j : Nat) : (fl (ppf q) (plN q)).contains (j : Int) = isPw q j := by
  apply bool_ext
  unfold isPw fl
  rw [List.contains_iff_mem, List.mem_map, List.any_eq_true]
  constructor
  · rintro ⟨i, hi, e⟩
    have e' : ((pp q i : Nat) : Int) = (j : Int) := e
    exact ⟨i, hi, beq_iff_eq.2 (by omega)⟩
  · rintro ⟨i, hi, e⟩
    have e' := eq_of_beq e
    exact ⟨i, hi, by show ((pp q i : Nat) : Int) = (j : Int); omega⟩
set_option maxHeartbeats 1000000 in
/-- slices.Index of a number. -/
theorem indexI (v : Value) (l : List Int) (x : Int) (w : World) (hv : Sl w v l) (hl : l.length ≤ 1000) :
    Calls Try.prog 127 #[v, .int .i64 x] w fun e w' => ∃ d : Int, e = .returned (.int .i64 d) ∧ ((d = -1 ∧ ∀ j, j < l.length → l.getD j 0 ≠ x) ∨ ∃ k : Nat, k < l.length ∧ d = k ∧ l.getD k 0 = x) ∧ w = w' := by
  by_cases h0 : 0 < l.length
  · obtain ⟨b, off, cap, rfl, hb, hc⟩ := hv.open rfl h0
    have HC := Lib.hid hc
    clear hc hv
    generalize l.length = n at *
    go_enter Try.func127, Try.ntmps127
    go_wp2_with fail
    go_loopw [8] (fun vi wr => ∃ k : Nat, k ≤ n ∧ vi = .int .i64 k ∧ (∀ j, j < k → l.getD j 0 ≠ x) ∧ wr = w) (fun vi _ => n - (intOf vi).toNat)
    case atStart => exact ⟨0, Nat.zero_le _, rfl, fun j hj => absurd hj (Nat.not_lt_zero _), rfl⟩
    case round =>
      obtain ⟨k, hk, rfl, hno, rfl⟩ := hrel
      have HNO := Lib.hid hno; clear hno
      by_cases hlt : k < n
      · have hcell := HC.out k hlt
        obtain ⟨y, hy⟩ : ∃ y, l.getD k 0 = y := ⟨_, rfl⟩
        rw [hy] at hcell
        have HY := Lib.hid hy; clear hy
        by_cases hxy : x = y
        · subst hxy
          go_wp2
          go_ret
          exact ⟨_, rfl, .inr ⟨k, hlt, rfl, HY.out⟩, rfl⟩
        · have hxy' : (x == y) = false := by simpa using hxy
          have HN : Hid (l.getD k 0 ≠ x) := Lib.hid (by rw [HY.out]; exact fun e => hxy e.symm)
          clear hxy
          go_wp2
          go_roundw
          case rel =>
            refine ⟨k + 1, by omega, by go_num, ?_, by first | rfl | trivial⟩
            intro j hj
            by_cases e : j = k
            · subst e
              exact HN.out
            · exact HNO.out j (by omega)
          case measure => simp [intOf]; omega
      · obtain rfl : n = k := by omega
        go_wp2
        go_ret
        exact ⟨_, rfl, .inl ⟨rfl, HNO.out⟩, rfl⟩
  · obtain rfl : l = [] := List.length_eq_zero_iff.1 (by omega)
    obtain ⟨a, cap, rfl⟩ := hv.empty
    go_enter Try.func127, Try.ntmps127
    go_wp2_with fail
    go_loopw [8] (fun vi wr => vi = .int .i64 0 ∧ wr = w) (fun _ _ => 0)
    case atStart => exact ⟨rfl, rfl⟩
    case round =>
      obtain ⟨rfl, rfl⟩ := hrel
      go_wp2
      go_ret
      exact ⟨_, rfl, .inl ⟨rfl, fun j hj => absurd hj (Nat.not_lt_zero _)⟩, rfl⟩
set_option maxHeartbeats 1000000 in
/-- slices.Contains of a number. -/
theorem containsI (v : Value) (l : List Int) (x : Int) (w : World) (hv : Sl w v l) (hl : l.length ≤ 1000) :
    Calls Try.prog 87 #[v, .int .i64 x] w fun e w' => e = .returned (.bool (l.contains x)) ∧ w = w' := by
  have HI := Lib.hid (indexI v l x w hv hl)
  have HY : Hid (∀ k, k < l.length → l.getD k 0 = x → l.contains x = true) := Lib.hid fun k hk e => by
    rw [List.contains_iff_mem, ← e, List.getD, List.getElem?_eq_getElem hk]
    exact List.getElem_mem hk
  have HN : Hid ((∀ j, j < l.length → l.getD j 0 ≠ x) → l.contains x = false) := Lib.hid fun hh => by
    rw [← Bool.not_eq_true, List.contains_iff_mem]
    intro hm
    obtain ⟨j, hj, e⟩ := List.getElem_of_mem hm
    exact hh j hj (by rw [List.getD, List.getElem?_eq_getElem hj]; exact e)
  obtain ⟨a, cap, rfl⟩ := hv.form
  clear hv
  generalize l.contains x = r at *
  generalize l.length = n at *
  go_enter Try.func87, Try.ntmps87
  go_wp2_with fail
  refine HI.out.mono ?_
  rintro e w2 ⟨d, rfl, hd, rfl⟩
  rcases hd with ⟨rfl, hno⟩ | ⟨k, hk, rfl, hkk⟩
  · have HR : Hid (r = false) := Lib.hid (HN.out hno)
    clear hno
    go_wp2
    go_ret
    exact ⟨ret_bool (by rw [HR.out]; try rfl), rfl⟩
  · have HR : Hid (r = true) := Lib.hid (HY.out k hk hkk)
    clear hkk
    go_wp2
    go_ret
    exact ⟨ret_bool (by rw [HR.out]; try simp), rfl⟩
/-- A list that is an additive polynomial. -/
def addL (q : Int) (l : List Int) : Bool := (isSz q && good q l) && adC q (fun i => l.getD i 0) 0 l.length
end Go.Proofs.Ytgndlpdcebmgmaa
