/- A region that draws its order, by an invariant: each operation is walked once, whatever came before it. -/
import Derived.Deep.RegionHeld3
namespace Go.Proofs.YtapglncgicfjnabGreat
/-- Every operation waits for earlier ones alone. -/
def wellOrd (ops : Array Oper) : Bool := (List.range ops.size).all fun i => ((ops[i]?).map fun o => o.after.all fun e => decide (e.on < i)).getD true
/-- How many are left. -/
def leftN (L : Array Bool) (n : Nat) : Nat := ((List.range n).filter fun i => !L.getD i true).length
theorem leftN_set {L : Array Bool} {n i : Nat} (hi : i < n) (hL : L.size = n) (h : L.getD i true = false) : leftN (L.setIfInBounds i true) n + 1 ≤ leftN L n := by
  unfold leftN
  have hsub : ∀ k : Nat, k ≤ n → ((List.range k).filter fun j => !(L.setIfInBounds i true).getD j true).length + (if i < k then 1 else 0) ≤ ((List.range k).filter fun j => !L.getD j true).length := by
    intro k
    induction k with
    | zero => intro _; simp
    | succ k ih =>
      intro hk
      have h1 := ih (by omega)
      rw [List.range_succ, List.filter_append, List.filter_append, List.length_append, List.length_append]
      by_cases hik : i = k
      · subst hik
        have e1 : (L.setIfInBounds i true).getD i true = true := by
          simp [Array.getD]
        have e2 : (List.filter (fun j => !(L.setIfInBounds i true).getD j true) [i]) = [] := by simp
        have e3 : (List.filter (fun j => !L.getD j true) [i]) = [i] := by rw [List.filter_cons]; simp [h]
        rw [e2, e3]
        rw [if_neg (by omega)] at h1
        rw [if_pos (by omega)]
        simp only [List.length_nil, List.length_cons]
        omega
      · have e1 : (L.setIfInBounds i true).getD k true = L.getD k true := by
          exact getD_set_ne true hik
        have e2 : (List.filter (fun j => !(L.setIfInBounds i true).getD j true) [k]) = (List.filter (fun j => !L.getD j true) [k]) := by
          rw [List.filter_cons, List.filter_cons, e1]
          rfl
        rw [e2]
        by_cases hlt : i < k
        · rw [if_pos hlt] at h1
          rw [if_pos (by omega)]
          omega
        · rw [if_neg hlt] at h1
          rw [if_neg (by omega)]
          omega
  have := hsub n (Nat.le_refl _)
  rw [if_pos hi] at this
  exact this
theorem least_left {L : Array Bool} {n : Nat} (hL : L.size = n) (h : ¬ ∀ i, i < n → L.getD i false = true) : ∃ i, i < n ∧ L.getD i true = false ∧ ∀ j, j < i → L.getD j false = true := by
  have key : ∀ k, k ≤ n → (∀ i, i < k → L.getD i false = true) ∨ ∃ i, i < k ∧ L.getD i true = false ∧ ∀ j, j < i → L.getD j false = true := by
    intro k
    induction k with
    | zero => intro _; exact .inl fun i hi => absurd hi (Nat.not_lt_zero _)
    | succ k ih =>
      intro hk
      rcases ih (by omega) with h1 | ⟨i, hi, h2, h3⟩
      · cases hv : L.getD k false with
        | true =>
          refine .inl fun i hi => ?_
          by_cases e : i = k
          · subst e; exact hv
          · exact h1 i (by omega)
        | false =>
          refine .inr ⟨k, by omega, ?_, h1⟩
          simp only [Array.getD] at hv ⊢
          rw [dif_pos (show k < L.size by omega)] at hv ⊢
          exact hv
      · exact .inr ⟨i, by omega, h2, h3⟩
  rcases key n (Nat.le_refl _) with h1 | h1
  · exact absurd h1 h
  · exact h1
section
variable {P : Program} {ops : Array Oper} {Q : Exit → Act → World → Prop}
theorem any_of_inv (hd : wellOrd ops = true) (I : Array Bool → Act → World → Prop)
    (hs : ∀ (L : Array Bool) (a : Act) (w : World) (i : Nat) (o : Oper), ops[i]? = some o → L.getD i true = false → (∀ e ∈ o.after, Region.binds .any e = true → L.getD e.on false = true) → I L a w → ∀ K : Act → World → Prop, (∀ a' w', I (L.setIfInBounds i true) a' w' → K a' w') → if Region.wanted o (yielded ops a.tmps) = true then o.wp P a w K Q else K (a.put o.dst undef) w)
    (hE : ∀ (L : Array Bool) (a : Act) (w : World), (∀ i, i < ops.size → L.getD i false = true) → I L a w → Q .normal a w) :
    ∀ (fuel : Nat) (L : Array Bool) (a : Act) (w : World), L.size = ops.size → leftN L ops.size ≤ fuel → I L a w → wpAny P .any ops Q fuel L a w := by
  have hall : ∀ (L : Array Bool), L.size = ops.size → Region.ready .any ops L = [] → ∀ i, i < ops.size → L.getD i false = true := by
    intro L hL hr
    refine Classical.byContradiction fun hn => ?_
    obtain ⟨i, hi, h1, h2⟩ := least_left hL hn
    have hmem : i ∈ Region.ready .any ops L := by
      unfold Region.ready
      rw [List.mem_filter]
      refine ⟨List.mem_range.2 hi, ?_⟩
      rw [h1]
      have hw := List.all_eq_true.1 hd i (List.mem_range.2 hi)
      rw [Array.getElem?_eq_getElem hi] at hw ⊢
      simp only [Option.map_some, Option.getD_some, Bool.not_false, Bool.true_and] at hw ⊢
      rw [Array.all_eq_true_iff_forall_mem] at hw ⊢
      intro e he
      have := hw e he
      rw [decide_eq_true_eq] at this
      rw [h2 _ this, Bool.or_true]
    rw [hr] at hmem
    cases hmem
  intro fuel
  induction fuel with
  | zero =>
    intro L a w hL hf hI
    have hr : Region.ready .any ops L = [] := by
      cases hr : Region.ready .any ops L with
      | nil => rfl
      | cons i r =>
        exfalso
        have hi : i ∈ Region.ready .any ops L := by rw [hr]; exact List.mem_cons_self
        unfold Region.ready at hi
        rw [List.mem_filter] at hi
        have hlt := List.mem_range.1 hi.1
        have hf0 : L.getD i true = false := by
          have := hi.2
          rw [Bool.and_eq_true] at this
          simpa using this.1
        have := leftN_set hlt hL hf0
        omega
    exact ⟨hr, hE L a w (hall L hL hr) hI⟩
  | succ fuel ih =>
    intro L a w hL hf hI
    refine ⟨fun hr => hE L a w (hall L hL hr) hI, fun i hi => ?_⟩
    unfold Region.ready at hi
    rw [List.mem_filter] at hi
    have hlt := List.mem_range.1 hi.1
    have h2 := hi.2
    rw [Bool.and_eq_true] at h2
    have hf0 : L.getD i true = false := by simpa using h2.1
    have ho : ops[i]? = some ops[i] := Array.getElem?_eq_getElem hlt
    have h3 := h2.2
    rw [ho] at h3
    simp only [Option.map_some, Option.getD_some] at h3
    rw [Array.all_eq_true_iff_forall_mem] at h3
    have hdep : ∀ e ∈ ops[i].after, Region.binds .any e = true → L.getD e.on false = true := fun e he hb => by
      have := h3 e he
      rw [hb] at this
      simpa using this
    have hstep := hs L a w i ops[i] ho hf0 hdep hI (fun a' w' => wpAny P .any ops Q fuel (L.setIfInBounds i true) a' w') (fun a' w' hI' => ih _ a' w' (by simp [hL]) (by have := leftN_set hlt hL hf0; omega) hI')
    unfold wpOp
    rw [ho]
    split at hstep
    · rename_i hw
      simp only [hw, if_true]
      exact .inl hstep
    · rename_i hw
      simp only [hw]
      exact hstep
theorem region_inv {id : Nat} {a : Act} {w : World} (hm : P.follows .mixedOrders = true) (hd : wellOrd ops = true) (I : Array Bool → Act → World → Prop)
    (h0 : I (Array.replicate ops.size false) a w.drew)
    (hs : ∀ (L : Array Bool) (a : Act) (w : World) (i : Nat) (o : Oper), ops[i]? = some o → L.getD i true = false → (∀ e ∈ o.after, Region.binds .any e = true → L.getD e.on false = true) → I L a w → ∀ K : Act → World → Prop, (∀ a' w', I (L.setIfInBounds i true) a' w' → K a' w') → if Region.wanted o (yielded ops a.tmps) = true then o.wp P a w K Q else K (a.put o.dst undef) w)
    (hE : ∀ (L : Array Bool) (a : Act) (w : World), (∀ i, i < ops.size → L.getD i false = true) → I L a w → Q .normal a w) : (Code.region id ops true).wp P Q a w := by
  refine wp_region_any hm (any_of_inv hd I hs hE ops.size _ a _ (by simp) ?_ h0)
  unfold leftN
  refine Nat.le_trans (List.length_filter_le _ _) ?_
  rw [List.length_range]
  exact Nat.le_refl _
theorem none_done (n i : Nat) : (Array.replicate n false).getD i false = false := by
  simp only [Array.getD]
  split <;> simp
theorem set_done {L : Array Bool} {i : Nat} (h : L.getD i true = false) : (L.setIfInBounds i true).getD i false = true := by
  simp only [Array.getD] at h ⊢
  split at h
  · rename_i hl
    rw [dif_pos (by simpa using hl)]
    simp
  · cases h
/-- What is done has done what it waits for. -/
def Closed (ops : Array Oper) (L : Array Bool) : Prop := ∀ (i : Nat) (o : Oper), ops[i]? = some o → L.getD i false = true → ∀ e ∈ o.after, Region.binds .any e = true → L.getD e.on false = true
theorem Closed.step {ops : Array Oper} {L : Array Bool} {i : Nat} {o : Oper} (h : Closed ops L) (ho : ops[i]? = some o) (hd : ∀ e ∈ o.after, Region.binds .any e = true → L.getD e.on false = true) : Closed ops (L.setIfInBounds i true) := fun j p hp hL e he hb => by
  refine getD_set_true ?_
  by_cases ej : i = j
  · subst ej
    rw [ho] at hp
    cases hp
    exact hd e he hb
  · rw [getD_set_ne false ej] at hL
    exact h j p hp hL e he hb
theorem region_inv2 {id : Nat} {a : Act} {w : World} (hm : P.follows .mixedOrders = true) (hd : wellOrd ops = true) (I : Array Bool → Act → World → Prop)
    (h0 : I (Array.replicate ops.size false) a w.drew)
    (hs : ∀ (L : Array Bool) (a : Act) (w : World) (i : Nat) (o : Oper), ops[i]? = some o → L.getD i true = false → (∀ e ∈ o.after, Region.binds .any e = true → L.getD e.on false = true) → Closed ops L → I L a w → ∀ K : Act → World → Prop, (∀ a' w', I (L.setIfInBounds i true) a' w' → K a' w') → if Region.wanted o (yielded ops a.tmps) = true then o.wp P a w K Q else K (a.put o.dst undef) w)
    (hE : ∀ (L : Array Bool) (a : Act) (w : World), (∀ i, i < ops.size → L.getD i false = true) → I L a w → Q .normal a w) : (Code.region id ops true).wp P Q a w :=
  region_inv hm hd (fun L a w => Closed ops L ∧ I L a w) ⟨fun i o _ hL => (by rw [none_done] at hL; cases hL), h0⟩
    (fun L a w i o ho hi hdep hI K hK => hs L a w i o ho hi hdep hI.1 hI.2 K fun a' w' h => hK a' w' ⟨hI.1.step ho hdep, h⟩)
    (fun L a w hall hI => hE L a w hall hI.2)
end
/-- What is known of the operations that are done: of each one's value, in its slot. -/
def Ph (n : Nat) (slt : Nat → Nat) (F : Nat → Value → World → Prop) (L : Array Bool) (x : Nat → Value) (w : World) : Prop := ∀ j, j < n → L.getD j false = true → F j (x (slt j)) w
theorem Ph.none {n : Nat} {slt : Nat → Nat} {F : Nat → Value → World → Prop} {L : Array Bool} (x : Nat → Value) (w : World) (h : ∀ j, j < n → L.getD j false = false) : Ph n slt F L x w := fun j hj hL => by rw [h j hj] at hL; cases hL
theorem Ph.step {n i : Nat} {slt : Nat → Nat} {F : Nat → Value → World → Prop} {L : Array Bool} {x x' : Nat → Value} {w w' : World} (h : Ph n slt F L x w) (hm : ∀ j v, F j v w → F j v w')
    (hs : ∀ j, j < n → j ≠ i → slt j ≠ slt i) (hx : ∀ k, k ≠ slt i → x' k = x k) (hi : F i (x' (slt i)) w') : Ph n slt F (L.setIfInBounds i true) x' w' := fun j hj hL => by
  by_cases e : j = i
  · subst e; exact hi
  · rw [getD_set_ne false (Ne.symm e)] at hL
    rw [hx _ (hs j hj e)]
    exact hm j _ (h j hj hL)
theorem not_done {L : Array Bool} {i : Nat} (h : L.getD i true = false) (h' : L.getD i false = true) : False := by
  simp only [Array.getD] at h h'
  split at h
  · rename_i hl
    rw [dif_pos hl] at h'
    rw [h] at h'
    cases h'
  · cases h
/-- One slot set. -/
def sv (x : Nat → Value) (s : Nat) (v : Value) : Nat → Value := fun k => if k = s then v else x k
theorem sv_ne {x : Nat → Value} {s k : Nat} {v : Value} (h : k ≠ s) : sv x s v k = x k := if_neg h
/-- A slot set to what it holds. -/
theorem sv_same {x : Nat → Value} {s : Nat} {v : Value} (h : x s = v) : sv x s v = x := by
  funext k
  unfold sv
  split
  · rename_i e; subst e; exact h.symm
  · rfl
end Go.Proofs.YtapglncgicfjnabGreat
