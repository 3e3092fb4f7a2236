/- PowerOfX, DicksonOf, JoinDickson, of both, by contracts; the walks of their laws. -/
import Derived.Test.YtkjpkdecoeoghaaNC
import Derived.Test.YtkjpkdecoeoghaaNF
import Derived.Test.YtkjpkdecoeoghaaNH
namespace Go.Proofs.Ytkjpkdecoeoghaa
open Go.RowKit
theorem ptl_len (m : Nat) (t : Nat → Int) : (ptl m t).length ≤ m := by
  rw [ptl, fl_len]
  exact sn_le _ _
theorem ptl_congr {m : Nat} {t u : Nat → Int} (h : ∀ x, x < m → t x = u x) : ptl m t = ptl m u := by
  have e : ipl m t m = ipl m u m := by
    funext j
    unfold ipl
    exact lsum_congr fun a ha => by rw [h a ha]
  unfold ptl
  rw [e]
theorem unt_set (n : Nat) : (List.replicate (n + 1) (0 : Int)).set n 1 = fl (unt n) (n + 1) := by
  have e : List.replicate (n + 1) (0 : Int) = fl (fun _ => 0) (n + 1) := by
    refine List.ext_getElem (by simp [fl_len]) fun i h1 h2 => ?_
    simp [fl]
  rw [e, fl_set]
  refine fl_congr fun i hi => ?_
  by_cases h : i = n
  · subst h
    rw [upd_at]
    exact (if_pos rfl).symm
  · rw [upd_ne _ _ _ _ h]
    exact (if_neg h).symm
theorem Row.cellN {w : World} {B g N : Nat} (h : Row w B (.slice (some ⟨g, 0, none⟩) N N) (List.replicate N 0)) (i : Nat) (hi : i < N) : w.cell? ⟨g, i, none⟩ = some (.int .i64 0) := by
  have e : (List.replicate N (0 : Int)).length = N := by simp
  have h' : Row w B (.slice (some ⟨g, 0, none⟩) (List.replicate N (0 : Int)).length N) (List.replicate N 0) := by rw [e]; exact h
  have := h'.cell i (by omega)
  rw [this]
  congr 2
  simp [List.getD, hi]
/-- What JoinDickson is asked of. -/
def in20 (x : Int) : Bool := decide (0 ≤ x) && decide (x ≤ 20)
theorem in20_nat {x : Int} (h : in20 x = true) : ∃ k : Nat, x = (k : Int) ∧ k ≤ 20 := by
  simp only [in20, Bool.and_eq_true, decide_eq_true_eq] at h
  exact ⟨x.toNat, by omega, by omega⟩
theorem in20_of {k : Nat} (h : k ≤ 20) : (decide (0 ≤ (k : Int)) && decide ((k : Int) ≤ 20)) = true := by
  simp only [Bool.and_eq_true, decide_eq_true_eq]
  omega
theorem in20_no {x : Int} (h : in20 x = false) : x < 0 ∨ 0 ≤ x ∧ 20 < x := by
  simp only [in20, Bool.and_eq_false_iff, decide_eq_false_iff_not] at h
  omega
/-- The table of JoinDickson. -/
def jdt (m M N : Nat) (a : Int) : Nat → Int := fun x => dkt m (pw m a N) M (dkt m a N x).toNat
end Go.Proofs.Ytkjpkdecoeoghaa
