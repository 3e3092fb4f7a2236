/- laws.tHas, laws.tSame, laws.tSameRows, laws.big: what general laws call, by contracts. -/
import Derived.Test.YtapglncgicfjnabGreatRQ
import Derived.Test.YtapglncgicfjnabGreatLV
import Derived.Deep.RegionHeld3
namespace Go.Proofs.YtapglncgicfjnabGreat
open Go.RowKit
theorem RS.slsQ {w : World} {B n : Nat} {v : Value} {F : Nat → List Int} {X : Nat → Value} (h : RS w B v n F X) : Sls w v n F := by
  by_cases hn : 0 < n
  · obtain ⟨g, cap, rfl, h1, h2, h3⟩ := h.form hn
    exact .inr ⟨g, 0, cap, X, rfl, h2, fun i hi => ⟨by rw [Nat.zero_add]; exact h3 i hi, (h.inner i hi).sl⟩⟩
  · obtain rfl : n = 0 := by omega
    exact .inl ⟨rfl, h.empty⟩
set_option maxHeartbeats 1000000 in
/-- laws.tSame, of two slices that hold the same. -/
theorem tSame_same (v1 v2 : Value) (l : List Int) (w : World) (h1 : Sl w v1 l) (h2 : Sl w v2 l) (hl : l.length ≤ 1048576) :
    Calls Tryz.prog 11 #[v1, v2] w fun e w' => e = .returned (.bool true) ∧ Below w.heap.size w w' := by
  by_cases h0 : 0 < l.length
  · obtain ⟨b1, o1, c1, rfl, hb1, hc1⟩ := h1.open rfl h0
    obtain ⟨b2, o2, c2, rfl, hb2, hc2⟩ := h2.open rfl h0
    have HC1 := Lib.hid hc1
    have HC2 := Lib.hid hc2
    clear h1 h2 hc1 hc2
    generalize hn : l.length = n at *
    go_enter Tryz.func11, Tryz.ntmps11
    go_wp2_with fail
    go_loopw [13] (fun vi wr => ∃ i : Nat, i ≤ n ∧ vi = .int .i64 i ∧ Below w.heap.size w wr) (fun vi _ => n - (intOf vi).toNat)
    case atStart => exact ⟨0, Nat.zero_le _, rfl, by (repeat' (first | (with_reducible assumption) | (with_reducible exact Below.refl _ _) | (with_reducible refine below_drewN ?_ _) | (with_reducible refine Below.drew ?_) | (with_reducible refine Below.alloc ?_ ?_ _) | (with_reducible refine Below.setCell ?_ ?_ _) | (with_reducible refine Below.trans ?_ (Below.mono (by assumption) ?_)) | (with_reducible exact Nat.le_refl _) | (with_reducible assumption) | omega | (simp; omega) | (simp; done)))⟩
    case round =>
      obtain ⟨i, hi, rfl, hb⟩ := hrel
      by_cases hlt : i < n
      · have e1 := (hb.cell (p := ⟨b1, o1 + i, none⟩) hb1).trans (HC1.out i hlt)
        have e2 := (hb.cell (p := ⟨b2, o2 + i, none⟩) hb2).trans (HC2.out i hlt)
        have hz := hb.size
        have HB := Lib.hid hb; clear hb
        generalize l.getD i 0 = x at *
        have l1 : b1 < wr.heap.size := by omega
        have l2 : b2 < wr.heap.size := by omega
        go_wp2_with fail
        go_region
        go_wp2_with fail
        go_roundw
        case rel => exact ⟨i + 1, by omega, by go_num, by have hb := HB.out; (repeat' (first | (with_reducible assumption) | (with_reducible exact Below.refl _ _) | (with_reducible refine below_drewN ?_ _) | (with_reducible refine Below.drew ?_) | (with_reducible refine Below.alloc ?_ ?_ _) | (with_reducible refine Below.setCell ?_ ?_ _) | (with_reducible refine Below.trans ?_ (Below.mono (by assumption) ?_)) | (with_reducible exact Nat.le_refl _) | (with_reducible assumption) | omega | (simp; omega) | (simp; done)))⟩
        case measure => simp [intOf]; omega
      · obtain rfl : n = i := by omega
        have HB := Lib.hid hb; clear hb
        go_wp2
        go_ret
        exact ⟨rfl, HB.out⟩
  · obtain rfl : l = [] := List.length_eq_zero_iff.1 (by omega)
    obtain ⟨a1, c1, rfl⟩ := h1.empty
    obtain ⟨a2, c2, rfl⟩ := h2.empty
    clear h1 h2 h0 hl
    go_enter Tryz.func11, Tryz.ntmps11
    go_wp2_with fail
    go_loopw [13] (fun vi wr => vi = .int .i64 0 ∧ wr = w) (fun _ _ => 0)
    case atStart => exact ⟨rfl, rfl⟩
    case round =>
      obtain ⟨rfl, rfl⟩ := hrel
      go_wp2
      go_ret
      exact ⟨rfl, Below.refl _ _⟩
theorem big_yes (a0 a1 : Option Addr) (n0 c0 n1 c1 : Nat) (w : World) (h : ¬ n0 + n1 ≤ 1048576) :
    Calls Tryz.prog 7 #[.slice a0 n0 c0, .slice a1 n1 c1] w fun e w' => e = .returned (.bool true) ∧ w = w' := by
  by_cases h0 : 1048576 < n0
  · have h1 : (1048576 : Int) < (n0 : Int) := by omega
    go_enter Tryz.func7, Tryz.ntmps7
    go_wp2
    go_ret
    exact ⟨by first | rfl | simp [h1], by first | rfl | trivial⟩
  · have h1 : ¬ (1048576 : Int) < (n0 : Int) := by omega
    have h2 : (1048576 : Int) - (n0 : Int) < (n1 : Int) := by omega
    have hw : IntKind.i64.wrap (1048576 - (n0 : Int)) = 1048576 - (n0 : Int) := IntWalk.i64_in _ (by omega)
    go_enter Tryz.func7, Tryz.ntmps7
    go_wp2
    go_ret
    exact ⟨by first | rfl | simp [h2], by first | rfl | trivial⟩
set_option maxHeartbeats 1000000 in
/-- laws.tHas. -/
theorem tHas_any (v : Value) (l : List Int) (z : Int) (w : World) (hv : Sl w v l) (hl : l.length ≤ 1048576) :
    Calls Tryz.prog 16 #[v, .int .i64 z] w fun e w' => e = .returned (.bool (decide (z ∈ l))) ∧ Below w.heap.size w w' := by
  by_cases h0 : 0 < l.length
  · obtain ⟨b1, o1, c1, rfl, hb1, hc1⟩ := hv.open rfl h0
    have HC1 := Lib.hid hc1
    have HIN : Hid (∀ i, i < l.length → l.getD i 0 ∈ l) := Lib.hid fun i hi => by rw [show l.getD i 0 = l[i] by simp [List.getD, hi]]; exact List.getElem_mem hi
    have HNO : Hid ((∀ j, j < l.length → l.getD j 0 ≠ z) → decide (z ∈ l) = false) := Lib.hid fun hj => decide_eq_false fun hz => by
      obtain ⟨i, hi, e⟩ := List.getElem_of_mem hz
      exact hj i hi (by rw [← e]; simp [List.getD, hi])
    clear hv hc1
    generalize hn : l.length = n at *
    go_enter Tryz.func16, Tryz.ntmps16
    go_wp2_with fail
    go_loopw [9] (fun vi wr => ∃ i : Nat, i ≤ n ∧ vi = .int .i64 i ∧ (∀ j, j < i → l.getD j 0 ≠ z) ∧ Below w.heap.size w wr) (fun vi _ => n - (intOf vi).toNat)
    case atStart => exact ⟨0, Nat.zero_le _, rfl, fun j hj => absurd hj (by omega), Below.refl _ _⟩
    case round =>
      obtain ⟨i, hi, rfl, hj, hb⟩ := hrel
      have HJ := Lib.hid hj; clear hj
      by_cases hlt : i < n
      · have e1 := (hb.cell (p := ⟨b1, o1 + i, none⟩) hb1).trans (HC1.out i hlt)
        have HI := Lib.hid (HIN.out i hlt)
        have hz := hb.size
        have HB := Lib.hid hb; clear hb
        have HX : Hid (∀ y, l.getD i 0 = y → l.getD i 0 = y) := Lib.hid fun _ h => h
        obtain ⟨x, hx⟩ : ∃ x, l.getD i 0 = x := ⟨_, rfl⟩
        have HXX := Lib.hid hx
        rw [hx] at e1
        clear hx HX
        have l1 : b1 < wr.heap.size := by omega
        by_cases hxz : x = z
        · subst hxz
          go_wp2
          go_ret
          exact ⟨by rw [decide_eq_true (show x ∈ l by have := HI.out; rwa [HXX.out] at this)]; rfl, HB.out⟩
        · go_wp2
          go_roundw
          case rel => exact ⟨i + 1, by omega, by go_num, fun j hj => by rcases Nat.lt_succ_iff_lt_or_eq.1 hj with h | rfl; exact HJ.out j h; rw [HXX.out]; exact hxz, HB.out⟩
          case measure => simp [intOf]; omega
      · obtain rfl : n = i := by omega
        have HB := Lib.hid hb; clear hb
        go_wp2
        go_ret
        exact ⟨by rw [HNO.out HJ.out]; rfl, HB.out⟩
  · obtain rfl : l = [] := List.length_eq_zero_iff.1 (by omega)
    obtain ⟨a1, c1, rfl⟩ := hv.empty
    clear hv h0 hl
    go_enter Tryz.func16, Tryz.ntmps16
    go_wp2_with fail
    go_loopw [9] (fun vi wr => vi = .int .i64 0 ∧ wr = w) (fun _ _ => 0)
    case atStart => exact ⟨rfl, rfl⟩
    case round =>
      obtain ⟨rfl, rfl⟩ := hrel
      go_wp2
      go_ret
      exact ⟨by simp, Below.refl _ _⟩
end Go.Proofs.YtapglncgicfjnabGreat
