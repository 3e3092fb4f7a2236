/- The polynomial with a table has that table; its form. No program here. -/
import Derived.Test.YtljijnanmpajaaaGreatGB
namespace Go.Proofs.YtljijnanmpajaaaGreat
theorem cf_sum2 {q a x : Int} (h : isSz q = true) (ha : El q a) (hx : El q x) : lsum q (fun j => mulF q (cf q a j) (pw q x j)) q.toNat = if x = a then 1 else 0 :=
  of_decide_eq_true (of_chk2 (f := fun q a x => decide (lsum q (fun j => mulF q (cf q a j) (pw q x j)) q.toNat = if x = a then 1 else 0)) (by decide +kernel) q a x h ha.1 ha.2 hx.1 hx.2)
theorem lsum_congr' {q : Int} {u v : Nat → Int} {n : Nat} (h : ∀ i, i < n → u i = v i) : lsum q u n = lsum q v n := by
  induction n with
  | zero => rfl
  | succ n ih => show addF q (lsum q u n) (u n) = addF q (lsum q v n) (v n); rw [ih fun i hi => h i (by omega), h n (by omega)]
/-- The polynomial of a table has the table's values. -/
theorem ipl_tab {m : Nat} {t : Nat → Int} (h : isSz (m : Int) = true) (ht : ∀ i, El m (t i)) (x : Nat) (hx : x < m) : val m (ipl m t m) m (x : Int) = t x := by
  have hX := El.nat hx
  have e1 : val m (ipl m t m) m (x : Int) = lsum m (fun j => lsum m (fun a => mulF m (t a) (mulF m (cf m (a : Int) j) (pw m (x : Int) j))) m) m := by
    refine lsum_congr' fun j hj => ?_
    show mulF m (lsum m (fun a => mulF m (t a) (cf m (a : Int) j)) m) (pw m (x : Int) j) = _
    rw [← lsum_mulr h (El.pw h hX j) fun a ha => (ht a).mul h (cf_el h (El.nat ha) j)]
    refine lsum_congr' fun a ha => ?_
    exact mul_assoc' h (ht a) (cf_el h (El.nat ha) j) (El.pw h hX j)
  rw [e1, lsum_swap h fun j a _ ha => (ht a).mul h ((cf_el h (El.nat ha) j).mul h (El.pw h hX j))]
  have e2 : ∀ a, a < m → lsum m (fun j => mulF m (t a) (mulF m (cf m (a : Int) j) (pw m (x : Int) j))) m = if x = a then t a else 0 := fun a ha => by
    rw [lsum_mul h (ht a) fun j _ => (cf_el h (El.nat ha) j).mul h (El.pw h hX j)]
    have := cf_sum2 h (El.nat ha) hX
    rw [Int.toNat_natCast] at this
    rw [this]
    by_cases e : x = a
    · subst e
      rw [if_pos rfl, if_pos rfl, (mul_one' h (ht x)).2]
    · rw [if_neg (by omega), if_neg e, (mul_zero' h (ht a)).2]
  rw [lsum_congr' e2, lsum_pick h (j := x) (by rw [if_pos rfl]; exact ht x) hx fun a _ hne => if_neg fun e => hne e.symm, if_pos rfl]
theorem ipl_congr {m n : Nat} {t u : Nat → Int} (e : ∀ i, i < n → t i = u i) (j : Nat) : ipl m t n j = ipl m u n j := lsum_congr' fun a ha => by rw [e a ha]
theorem sn_last {f : Nat → Int} : ∀ n, 0 < sn f n → f (sn f n - 1) ≠ 0
  | 0, h => absurd h (Nat.lt_irrefl 0)
  | n + 1, h => by
    unfold sn at h ⊢
    by_cases e : f n = 0
    · rw [if_pos e] at h ⊢
      exact sn_last n h
    · rw [if_neg e]
      exact e
theorem ipl_elT {m : Nat} {t : Nat → Int} (h : isSz (m : Int) = true) (ht : ∀ i, i < m → El (m : Int) (t i)) (j : Nat) : El (m : Int) (ipl m t m j) :=
  lsum_el h fun i hi => (ht i hi).mul h (cf_el h (El.nat hi) j)
/-- The list of a table's polynomial: short, of elements, no zero last. -/
theorem ptl_form {m : Nat} {t : Nat → Int} (h : isSz (m : Int) = true) (ht : ∀ i, i < m → El (m : Int) (t i)) :
    (ptl m t).length ≤ m ∧ (∀ x ∈ ptl m t, El (m : Int) x) ∧ (0 < (ptl m t).length → 0 < (ptl m t).getD ((ptl m t).length - 1) 0) := by
  have e : (ptl m t).length = sn (ipl m t m) m := fl_len _ _
  refine ⟨e ▸ sn_le _ _, fun x hx => ?_, fun h0 => ?_⟩
  · obtain ⟨i, _, rfl⟩ := List.mem_map.1 (show x ∈ (List.range _).map _ from hx)
    exact ipl_elT h ht i
  · rw [e] at h0 ⊢
    have h1 := sn_last (f := ipl m t m) m h0
    have h2 := ipl_elT h ht (sn (ipl m t m) m - 1)
    rw [show (ptl m t).getD (sn (ipl m t m) m - 1) 0 = ipl m t m (sn (ipl m t m) m - 1) from fl_get _ _ _ (by omega)]
    have := h2.1
    omega
theorem ptl_at {m : Nat} {t : Nat → Int} (h : isSz (m : Int) = true) (ht : ∀ i, i < m → El (m : Int) (t i)) (x : Nat) (hx : x < m) :
    val m (fun i => (ptl m t).getD i 0) (ptl m t).length (x : Int) = t x := by
  have ht' : ∀ i, El (m : Int) (if i < m then t i else 0) := fun i => by
    by_cases e : i < m
    · rw [if_pos e]; exact ht i e
    · rw [if_neg e]; exact El.zero h
  have e1 : ∀ j, ipl m t m j = ipl m (fun i => if i < m then t i else 0) m j := fun j => ipl_congr (fun i hi => by simp only [if_pos hi]) j
  have hel := ipl_el h ht' m
  rw [← show (if x < m then t x else 0) = t x from if_pos hx, ← ipl_tab h ht' x hx]
  have e2 : (ptl m t).length = sn (ipl m t m) m := fl_len _ _
  rw [e2]
  have e3 : val m (ipl m (fun i => if i < m then t i else 0) m) m (x : Int) = val m (fun i => (ptl m t).getD i 0) m (x : Int) := by
    refine lsum_congr' fun j hj => ?_
    show _ = mulF m ((ptl m t).getD j 0) _
    by_cases hs : j < sn (ipl m t m) m
    · rw [show (ptl m t).getD j 0 = ipl m t m j from fl_get _ _ _ hs, e1]
    · rw [← e1, sn_past (f := ipl m t m) (by omega) hj]
      rw [show (ptl m t).getD j 0 = 0 from by rw [List.getD_eq_getElem?_getD, List.getElem?_eq_none (by omega)]; rfl]
  rw [e3]
  refine (val_more h (fun i => ?_) (El.nat hx) (sn_le _ _) fun i hi => ?_).symm
  · by_cases hs : i < sn (ipl m t m) m
    · rw [show (ptl m t).getD i 0 = ipl m t m i from fl_get _ _ _ hs]
      exact ipl_elT h ht i
    · rw [show (ptl m t).getD i 0 = 0 from by rw [List.getD_eq_getElem?_getD, List.getElem?_eq_none (by omega)]; rfl]
      exact El.zero h
  · rw [List.getD_eq_getElem?_getD, List.getElem?_eq_none (by omega)]; rfl
end Go.Proofs.YtljijnanmpajaaaGreat
