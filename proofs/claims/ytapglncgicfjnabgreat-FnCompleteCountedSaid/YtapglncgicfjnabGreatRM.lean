/- Slices of slices of integers, made at once and filled one after the other. -/
import Derived.Test.YtapglncgicfjnabGreatLV
namespace Go.Proofs.YtapglncgicfjnabGreat
open Go.RowKit
theorem RS.slc {w : World} {B n : Nat} {v : Value} {F : Nat → List Int} {X : Nat → Value} (h : RS w B v n F X) : ∃ a cap, v = .slice a n cap := by
  by_cases h0 : 0 < n
  · obtain ⟨g, cap, e, _⟩ := h.form h0
    exact ⟨_, _, e⟩
  · obtain rfl : n = 0 := by omega
    exact h.empty
theorem RS.ltX {w : World} {B n : Nat} {v : Value} {F : Nat → List Int} {X : Nat → Value} (h : RS w B v n F X) : ∀ i, i < n → ∀ g, (X i).ownBlock = some g → B ≤ g ∧ g < w.heap.size := fun i hi g hg => (h.inner i hi).lt g hg
theorem RS.frozen {w : World} {B g n cap : Nat} {F : Nat → List Int} {X : Nat → Value} (h : RS w B (.slice (some ⟨g, 0, none⟩) n cap) n F X) (i : Nat) : w.frozen? ⟨g, i, none⟩ = false := World.ownsRow.frozenAt h.outer i
theorem flv_set (X : Nat → Value) (n i : Nat) (u : Value) : (flv X n).set i u = flv (set1 X i u) n := by
  refine List.ext_getElem? fun j => ?_
  by_cases hj : j < n
  · rw [flv_get _ _ _ hj]
    by_cases e : i = j
    · subst e
      rw [List.getElem?_set_self (by rw [flv_len]; exact hj), set1_at]
    · rw [List.getElem?_set_ne e, flv_get _ _ _ hj, set1_ne _ _ _ _ (fun x => e x.symm)]
  · rw [List.getElem?_eq_none (by rw [List.length_set, flv_len]; omega), List.getElem?_eq_none (by rw [flv_len]; omega)]
/-- One slice put in the place of another one. -/
theorem RS.stored {w : World} {B g n cap i : Nat} {u : Value} {F : Nat → List Int} {X : Nat → Value} {l : List Int} (h : RS w B (.slice (some ⟨g, 0, none⟩) n cap) n F X) (hi : i < n) (hu : Row w B u l)
    (ha : ∀ j, j < n → j ≠ i → ∀ g', (X j).ownBlock = some g' → u.ownBlock ≠ some g') : RS (w.setCell ⟨g, i, none⟩ u) B (.slice (some ⟨g, 0, none⟩) n cap) n (set1 F i l) (set1 X i u) := by
  refine ⟨?_, ?_, ?_⟩
  · rw [← flv_set]
    exact (World.ownsRow.stored h.outer i u).1
  · intro j hj
    by_cases e : j = i
    · subst e
      rw [set1_at, set1_at]
      exact hu.other (a := ⟨g, j, none⟩) (fun e => outer_ne h.outer hu e rfl) u
    · rw [set1_ne _ _ _ _ e, set1_ne _ _ _ _ e]
      have hr := h.inner j hj
      exact hr.other (a := ⟨g, i, none⟩) (fun e => outer_ne h.outer hr e rfl) u
  · intro j k hjk hk g' hg
    by_cases e1 : j = i
    · subst e1
      rw [set1_at] at hg
      rw [set1_ne _ _ _ _ (by omega)]
      exact fun e2 => ha k hk (by omega) g' e2 hg
    · rw [set1_ne _ _ _ _ e1] at hg
      by_cases e2 : k = i
      · subst e2
        rw [set1_at]
        exact ha j (by omega) (by omega) g' hg
      · rw [set1_ne _ _ _ _ e2]
        exact h.apart j k hjk hk g' hg
/-- The first i lists of a family. -/
def cutF (F : Nat → List Int) (i : Nat) : Nat → List Int := fun j => if j < i then F j else []
theorem cutF_step (F : Nat → List Int) (i : Nat) : set1 (cutF F i) i (F i) = cutF F (i + 1) := by
  funext j
  by_cases e : j = i
  · subst e
    rw [set1_at]
    simp [cutF]
  · rw [set1_ne _ _ _ _ e]
    unfold cutF
    by_cases h : j < i
    · rw [if_pos h, if_pos (by omega)]
    · rw [if_neg h, if_neg (by omega)]
theorem RS.made {w : World} {B g n : Nat} (F : Nat → List Int) (h : w.ownsRow B 24 1 (.slice (some ⟨g, 0, none⟩) n n) n (madeCells #[Value.slice none 0 0] n).toList) : RS w B (.slice (some ⟨g, 0, none⟩) n n) n (cutF F 0) (fun _ => .slice none 0 0) := by
  refine ⟨?_, fun i _ => ?_, fun _ _ _ _ _ hg => by cases hg⟩
  · rw [toList_madeCells_one] at h
    have e : flv (fun _ => Value.slice none 0 0) n = List.replicate n (Value.slice none 0 0) := by
      refine List.ext_getElem (by simp [flv]) fun j h1 h2 => ?_
      simp [flv]
    rw [e]
    exact h
  · have e : cutF F 0 i = [] := if_neg (Nat.not_lt_zero _)
    rw [e]
    exact Row.nil _ _
theorem RS.all {w : World} {B n : Nat} {v : Value} {F : Nat → List Int} {X : Nat → Value} (h : RS w B v n (cutF F n) X) : RS w B v n F X := h.congr fun _ hi => if_pos hi
theorem ofs_bd {F : Nat → List Int} {c : Nat} (h : ∀ i, (F i).length ≤ c) : ∀ n, ofs F n ≤ c * n := by
  intro n
  induction n with
  | zero => exact Nat.le_refl _
  | succ n ih =>
    have := h n
    show ofs F n + (F n).length ≤ c * (n + 1)
    rw [Nat.mul_succ]
    omega
end Go.Proofs.YtapglncgicfjnabGreat
