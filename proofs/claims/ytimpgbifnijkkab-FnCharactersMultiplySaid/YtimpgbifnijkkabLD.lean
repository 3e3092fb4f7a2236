/- No element twice, of the model; DoesPermute, of both, by contracts; the walk of its law. -/
import Derived.Test.YtimpgbifnijkkabLC
namespace Go.Proofs.Ytimpgbifnijkkab
open Go.RowKit
theorem Row.capv {w : World} {B : Nat} {v : Value} {l : List Int} (h : Row w B v l) : ∀ a k cap, v = .slice a k cap → k ≤ cap := by
  intro a k cap e
  subst e
  by_cases hl : 0 < l.length
  · obtain ⟨g, c, e, _, _⟩ := h.form hl
    cases e
    exact h.cap
  · obtain rfl : l = [] := List.length_eq_zero_iff.1 (by omega)
    obtain ⟨a, c, e⟩ := h.empty
    cases e
    exact Nat.zero_le _
set_option maxHeartbeats 1000000 in
/-- spec.peDoes. -/
theorem peDoes_any (v : Value) (t : Nat → Int) (m : Nat) (w : World) (h : Sl w v (fl t m)) (hcap : ∀ a k cap, v = .slice a k cap → k ≤ cap) (hm : m ≤ 1000) :
    Calls Try.prog 88 #[v] w fun e w' => e = .returned (.bool (dis t m)) ∧ w = w' := by
  obtain ⟨a, cap, rfl, hp⟩ := h.parts
  have hc := hcap _ _ _ rfl
  clear h hcap
  by_cases h0 : 0 < m
  · obtain ⟨b, off, rfl, hb, hcl⟩ := hp h0
    have HC := Lib.hid hcl
    clear hp hcl
    have HY : Hid (∀ k, m ≤ k → (∀ i, i < k → ∀ j, j < i → t j ≠ t i) → dis t m = true) := Lib.hid fun k hk h => dis_iff.2 fun i hi j hj => h i (by omega) j hj
    have HN : Hid (∀ k, k < m → (fl t k).contains (t k) = true → dis t m = false) := Lib.hid fun k hk h => by
      obtain ⟨j, hj, e⟩ := contains_yes h
      exact dis_no hk hj e
    have HH : Hid (∀ k, k < m → Calls Try.prog 82 #[.slice (some ⟨b, off, none⟩) k cap, .int .i64 (t k)] w fun e w' => e = .returned (.bool ((fl t k).contains (t k))) ∧ w = w') := Lib.hid fun k hk =>
      has_any b off k cap (fl t k) (t k) w (by rw [fl_len]) (by omega) (fun j hj => by rw [fl_len] at hj; rw [fl_get _ _ _ hj]; exact HC.out j (by omega))
    have HCN : Hid (∀ k, (fl t k).contains (t k) = false → ∀ j, j < k → t j ≠ t k) := Lib.hid fun k h => contains_no h
    generalize dis t m = r at *
    go_enter Try.func88, Try.ntmps88
    go_wp2_with fail
    go_loopw [7] (fun vi wr => ∃ k : Nat, k ≤ m ∧ vi = .int .i64 k ∧ (∀ i, i < k → ∀ j, j < i → t j ≠ t i) ∧ w = wr) (fun vi _ => m - (intOf vi).toNat)
    case atStart => exact ⟨0, Nat.zero_le _, rfl, fun i hi => absurd hi (Nat.not_lt_zero _), rfl⟩
    case round =>
      obtain ⟨k, hk, rfl, hd, rfl⟩ := hrel
      by_cases hlt : k < m
      · have hc0 := HC.out k hlt
        have HH' := Lib.hid (HH.out k hlt)
        have HD := Lib.hid hd; clear hd
        have hkc : k ≤ cap := by omega
        cases hcn : (fl t k).contains (t k) with
        | true =>
          rw [hcn] at HH'
          have HF := Lib.hid (HN.out k hlt hcn)
          clear hcn
          generalize t k = x at *
          go_wp2_with fail
          refine HH'.out.mono ?_
          rintro e w1 ⟨rfl, rfl⟩
          go_wp2
          go_ret
          exact ⟨ret_bool HF.out.symm, by first | rfl | trivial⟩
        | false =>
          rw [hcn] at HH'
          have HF := Lib.hid (HCN.out k hcn)
          clear hcn
          go_wp2_with fail
          refine HH'.out.mono ?_
          rintro e w1 ⟨rfl, rfl⟩
          go_wp2
          go_roundw
          case rel =>
            refine ⟨k + 1, by omega, by go_num, ?_, by first | trivial | rfl⟩
            intro i hi j hj
            by_cases e : i = k
            · subst e
              exact HF.out j hj
            · exact HD.out i (by omega) j hj
          case measure => simp [intOf]; omega
      · obtain rfl : m = k := by omega
        have HF := Lib.hid (HY.out _ (Nat.le_refl _) hd)
        clear hd
        go_wp2
        go_ret
        exact ⟨ret_bool HF.out.symm, by first | rfl | trivial⟩
  · obtain rfl : m = 0 := by omega
    have HF : Hid (dis t 0 = true) := Lib.hid rfl
    clear hp
    generalize dis t 0 = r at *
    go_enter Try.func88, Try.ntmps88
    go_wp2_with fail
    go_loopw [7] (fun vi wr => vi = .int .i64 0 ∧ w = wr) (fun _ _ => 0)
    case atStart => exact ⟨rfl, rfl⟩
    case round =>
      obtain ⟨rfl, rfl⟩ := hrel
      go_wp2
      go_ret
      exact ⟨ret_bool HF.out.symm, by first | rfl | trivial⟩

end Go.Proofs.Ytimpgbifnijkkab
