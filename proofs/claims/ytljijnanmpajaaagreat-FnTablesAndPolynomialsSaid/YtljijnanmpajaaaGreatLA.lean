/- Tables that permute: no element twice, each element once, and what undoes them. -/
import Derived.Test.YtljijnanmpajaaaGreatKA
namespace Go.Proofs.YtljijnanmpajaaaGreat
/-- No element is there twice. -/
def dis (t : Nat → Int) (m : Nat) : Bool := (List.range m).all fun i => (List.range i).all fun j => decide (t j ≠ t i)
/-- Each element is there. -/
def onto (t : Nat → Int) (m : Nat) : Bool := (List.range m).all fun x => (List.range m).any fun i => decide (t i = (x : Int))
theorem dis_iff {t : Nat → Int} {m : Nat} : dis t m = true ↔ ∀ i, i < m → ∀ j, j < i → t j ≠ t i := by
  simp [dis, List.all_eq_true]
theorem onto_iff {t : Nat → Int} {m : Nat} : onto t m = true ↔ ∀ x, x < m → ∃ i, i < m ∧ t i = (x : Int) := by
  simp [onto, List.all_eq_true, List.any_eq_true]
theorem dis_no {t : Nat → Int} {m i j : Nat} (hi : i < m) (hj : j < i) (h : t j = t i) : dis t m = false := by
  cases hd : dis t m with
  | false => rfl
  | true => exact absurd h (dis_iff.1 hd i hi j hj)
theorem onto_no {t : Nat → Int} {m x : Nat} (hx : x < m) (h : ∀ i, i < m → t i ≠ (x : Int)) : onto t m = false := by
  cases hd : onto t m with
  | false => rfl
  | true =>
    obtain ⟨i, hi, e⟩ := onto_iff.1 hd x hx
    exact absurd e (h i hi)
theorem sub_len {α : Type} [DecidableEq α] : ∀ (l r : List α), l.Nodup → (∀ x ∈ l, x ∈ r) → l.length ≤ r.length
  | [], _, _, _ => Nat.zero_le _
  | a :: l, r, hn, h => by
    have ha := h a (by simp)
    have hn' := List.nodup_cons.1 hn
    have ih := sub_len l (r.erase a) hn'.2 (fun x hx => (List.mem_erase_of_ne (fun e : x = a => hn'.1 (by rw [← e]; exact hx))).2 (h x (by simp [hx])))
    rw [List.length_erase_of_mem ha] at ih
    have := List.length_pos_of_mem ha
    simp
    omega
theorem pig {t : Nat → Int} {m : Nat} (ht : ∀ i, i < m → 0 ≤ t i ∧ t i < (m : Int)) : (∀ i, i < m → ∀ j, j < i → t j ≠ t i) ↔ ∀ x, x < m → ∃ i, i < m ∧ t i = (x : Int) := by
  have hmem : ∀ i, i < m → (t i).toNat ∈ List.range m := fun i hi => by
    have := ht i hi
    exact List.mem_range.2 (by omega)
  constructor
  · intro hd x hx
    refine Classical.byContradiction fun hno => ?_
    have hn : ((List.range m).map fun i => (t i).toNat).Nodup := by
      rw [List.Nodup, List.pairwise_map]
      refine List.Pairwise.imp_of_mem (R := fun a b => a < b) ?_ List.pairwise_lt_range
      intro a b ha hb hab e
      have h1 := ht a (List.mem_range.1 ha)
      have h2 := ht b (List.mem_range.1 hb)
      exact hd b (List.mem_range.1 hb) a hab (by omega)
    have := sub_len (x :: (List.range m).map fun i => (t i).toNat) (List.range m) (List.nodup_cons.2 ⟨fun hin => ?_, hn⟩) (fun y hy => ?_)
    · simp at this
      omega
    · obtain ⟨i, hi, e⟩ := List.mem_map.1 hin
      have h1 := ht i (List.mem_range.1 hi)
      exact hno ⟨i, List.mem_range.1 hi, by omega⟩
    · rcases List.mem_cons.1 hy with rfl | hy
      · exact List.mem_range.2 hx
      · obtain ⟨i, hi, rfl⟩ := List.mem_map.1 hy
        exact hmem i (List.mem_range.1 hi)
  · intro ho i hi j hj e
    have := sub_len (List.range m) (((List.range m).erase i).map fun i => (t i).toNat) List.nodup_range (fun x hx => ?_)
    · have hl := List.length_erase_of_mem (List.mem_range.2 hi)
      simp only [List.length_map, List.length_range] at this hl
      omega
    · obtain ⟨k, hk, ek⟩ := ho x (List.mem_range.1 hx)
      by_cases hki : k = i
      · subst hki
        refine List.mem_map.2 ⟨j, (List.mem_erase_of_ne (by omega)).2 (List.mem_range.2 (by omega)), ?_⟩
        show (t j).toNat = x
        rw [e, ek]
        omega
      · refine List.mem_map.2 ⟨k, (List.mem_erase_of_ne hki).2 (List.mem_range.2 hk), ?_⟩
        show (t k).toNat = x
        rw [ek]
        omega
theorem dis_onto {t : Nat → Int} {m : Nat} (ht : ∀ i, i < m → 0 ≤ t i ∧ t i < (m : Int)) : dis t m = onto t m := by
  cases hd : dis t m with
  | true => exact (onto_iff.2 ((pig ht).1 (dis_iff.1 hd))).symm
  | false =>
    cases ho : onto t m with
    | false => rfl
    | true => exact absurd (dis_iff.2 ((pig ht).2 (onto_iff.1 ho))) (by simp [hd])
/-- What undoes a table that permutes. -/
def inv (t : Nat → Int) (m y : Nat) : Int := (((List.range m).find? fun x => decide (t x = (y : Int))).getD 0 : Nat)
theorem inv_lt {t : Nat → Int} {m y : Nat} (h : 0 < m) : 0 ≤ inv t m y ∧ inv t m y < (m : Int) := by
  unfold inv
  cases hf : (List.range m).find? fun x => decide (t x = (y : Int)) with
  | none => simp; omega
  | some x =>
    have := List.mem_range.1 (List.mem_of_find?_eq_some hf)
    simp
    omega
theorem inv_at {t : Nat → Int} {m x y : Nat} (hd : dis t m = true) (hx : x < m) (h : t x = (y : Int)) : inv t m y = (x : Int) := by
  have hd' := dis_iff.1 hd
  unfold inv
  cases hf : (List.range m).find? fun x => decide (t x = (y : Int)) with
  | none =>
    have := List.find?_eq_none.1 hf x (List.mem_range.2 hx)
    simp [h] at this
  | some z =>
    have h1 := List.mem_range.1 (List.mem_of_find?_eq_some hf)
    have h2 : t z = (y : Int) := by simpa using List.find?_some hf
    have h3 : z = x := by
      rcases Nat.lt_trichotomy z x with h4 | h4 | h4
      · exact absurd (h2.trans h.symm) (hd' x hx z h4)
      · exact h4
      · exact absurd (h.trans h2.symm) (hd' z h1 x h4)
    simp [h3]
/-- Whoever has each element at its value's place is that which undoes the table. -/
theorem inv_of {t c : Nat → Int} {m : Nat} (ht : ∀ i, i < m → 0 ≤ t i ∧ t i < (m : Int)) (hd : dis t m = true) (hc : ∀ x, x < m → c (t x).toNat = (x : Int)) : ∀ y, y < m → c y = inv t m y := by
  intro y hy
  obtain ⟨x, hx, e⟩ := (pig ht).1 (dis_iff.1 hd) y hy
  have := hc x hx
  rw [e] at this
  rw [inv_at hd hx e]
  simpa using this
theorem contains_fl (t : Nat → Int) (i : Nat) (x : Int) : (fl t i).contains x = (List.range i).any fun j => decide (t j = x) := by
  induction i with
  | zero => rfl
  | succ n ih =>
    rw [fl_succ, List.range_succ, List.any_append, List.contains_append, ih]
    congr 1
    simp [eq_comm]
theorem contains_yes {t : Nat → Int} {i : Nat} {x : Int} (h : (fl t i).contains x = true) : ∃ j, j < i ∧ t j = x := by
  rw [contains_fl, List.any_eq_true] at h
  obtain ⟨j, hj, e⟩ := h
  exact ⟨j, List.mem_range.1 hj, by simpa using e⟩
theorem contains_no {t : Nat → Int} {i : Nat} {x : Int} (h : (fl t i).contains x = false) : ∀ j, j < i → t j ≠ x := by
  rw [contains_fl, List.any_eq_false] at h
  intro j hj e
  exact h j (List.mem_range.2 hj) (by simpa using e)
end Go.Proofs.YtljijnanmpajaaaGreat
