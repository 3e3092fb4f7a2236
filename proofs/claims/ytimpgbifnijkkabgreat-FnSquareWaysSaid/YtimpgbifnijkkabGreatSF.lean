/- The polynomial with a table has that table; differences as polynomials: impl.poly.difference, by a contract. -/
import Derived.Test.YtimpgbifnijkkabGreatSC
import Derived.Test.YtimpgbifnijkkabGreatLJ
import Derived.Test.YtimpgbifnijkkabGreatNE
import Derived.Deep.RegionHeld3
namespace Go.Proofs.YtimpgbifnijkkabGreat
open Go.RowKit
theorem cf_sum2 {q a x : Int} (h : isSz q = true) (ha : El q a) (hx : El q x) : lsum q (fun j => mulF q (cf q a j) (pw q x j)) q.toNat = if x = a then 1 else 0 :=
  of_decide_eq_true (of_chk2 (f := fun q a x => decide (lsum q (fun j => mulF q (cf q a j) (pw q x j)) q.toNat = if x = a then 1 else 0)) (by decide +kernel) q a x h ha.1 ha.2 hx.1 hx.2)
theorem lsum_congr' {q : Int} {u v : Nat → Int} {n : Nat} (h : ∀ i, i < n → u i = v i) : lsum q u n = lsum q v n := by
  induction n with
  | zero => rfl
  | succ n ih => show addF q (lsum q u n) (u n) = addF q (lsum q v n) (v n); rw [ih fun i hi => h i (by omega), h n (by omega)]
/-- The polynomial of a table has the table's values. -/
theorem ipl_tab {m : Nat} {t : Nat → Int} (h : isSz (m : Int) = true) (ht : ∀ i, El m (t i)) (x : Nat) (hx : x < m) : val m (ipl m t m) m (x : Int) = t x := by
  have hX := El.nat hx
  have e1 : val m (ipl m t m) m (x : Int) = lsum m (fun j => lsum m (fun a => mulF m (t a) (mulF m (cf m (a : Int) j) (pw m (x : Int) j))) m) m := by
    refine lsum_congr' fun j hj => ?_
    show mulF m (lsum m (fun a => mulF m (t a) (cf m (a : Int) j)) m) (pw m (x : Int) j) = _
    rw [← lsum_mulr h (El.pw h hX j) fun a ha => (ht a).mul h (cf_el h (El.nat ha) j)]
    refine lsum_congr' fun a ha => ?_
    exact mul_assoc' h (ht a) (cf_el h (El.nat ha) j) (El.pw h hX j)
  rw [e1, lsum_swap h fun j a _ ha => (ht a).mul h ((cf_el h (El.nat ha) j).mul h (El.pw h hX j))]
  have e2 : ∀ a, a < m → lsum m (fun j => mulF m (t a) (mulF m (cf m (a : Int) j) (pw m (x : Int) j))) m = if x = a then t a else 0 := fun a ha => by
    rw [lsum_mul h (ht a) fun j _ => (cf_el h (El.nat ha) j).mul h (El.pw h hX j)]
    have := cf_sum2 h (El.nat ha) hX
    rw [Int.toNat_natCast] at this
    rw [this]
    by_cases e : x = a
    · subst e
      rw [if_pos rfl, if_pos rfl, (mul_one' h (ht x)).2]
    · rw [if_neg (by omega), if_neg e, (mul_zero' h (ht a)).2]
  rw [lsum_congr' e2, lsum_pick h (j := x) (by rw [if_pos rfl]; exact ht x) hx fun a _ hne => if_neg fun e => hne e.symm, if_pos rfl]
theorem tb_with {m : Nat} {t : Nat → Int} (h : isSz (m : Int) = true) (ht : ∀ i, El (m : Int) (t i)) : Tb m (redR m (tms m t) m) (redn m (tms m t) m) t :=
  (tb_red h (tms_el h ht) m).like fun a ha => by
    rw [← ipl_tab h ht a ha]
    exact lsum_congr' fun j _ => by rw [tms_same h ht]
theorem ftl_ptl {m : Nat} {t : Nat → Int} (h : isSz (m : Int) = true) (ht : ∀ i, i < m → El (m : Int) (t i)) : ftl m t = ptl m t := by
  have hc := clm_el h ht
  rw [← ((tb_with h hc).like fun a ha => show clm m t a = t a by simp [clm, ha]).same h, from_same' h hc]
  rfl
/-- impl.field.polyWithTable, told by the table. -/
theorem polyWithTableT (m : Nat) (v : Value) (t : Nat → Int) (w : World) (h : isSz (m : Int) = true) (hv : Se w v (m : Int) t m) (ht : ∀ i, i < m → El (m : Int) (t i)) :
    Calls Tryz.prog 39 #[fdE (m : Int), v] w fun e w' => ∃ v', e = .returned (polyE (m : Int) v') ∧ IsP w' v' m t ∧ Below w.heap.size w w' := by
  have hel := clm_el h ht
  refine (polyWithTableE m v (clm m t) w h (hv.like fun i hi => by simp [clm, hi]) hel).mono ?_
  rintro e w' ⟨g, cap, rfl, hg, he, hb⟩
  exact ⟨_, rfl, ⟨g, _, cap, _, rfl, hg, he, (tb_with h hel).like fun a ha => by simp [clm, ha]⟩, hb⟩
theorem IsP.tab {w : World} {v : Value} {m : Nat} {t : Nat → Int} (h : isSz (m : Int) = true) (hp : IsP w v m t) : ∃ g k cap f, v = .slice (some ⟨g, 0, none⟩) k cap ∧ g < w.heap.size ∧ Els w g (m : Int) f k ∧ (∀ i, El (m : Int) (f i)) ∧ k ≤ m ∧ ∀ a, a < m → tabF (m : Int) f k a = t a := by
  obtain ⟨g, k, cap, f, rfl, hg, he, ht⟩ := hp
  refine ⟨g, k, cap, f, rfl, hg, he, ht.el, ht.le, fun a ha => ?_⟩
  show hor m (a : Int) f k k = t a
  rw [hor_val h (El.nat ha) ht.el k, ht.short h a ha]
theorem IsP.over3 {w w' : World} {P : Nat} {v : Value} {m : Nat} {t : Nat → Int} (h : IsP w v m t) (hP : w.heap[P]? = some pzblk) (hw : ∀ k, k ≠ P → w'.heap[k]? = w.heap[k]?) (hs : w'.heap.size = w.heap.size) : IsP w' v m t := by
  obtain ⟨g, k, cap, f, rfl, hg, he, ht⟩ := h
  refine ⟨g, k, cap, f, rfl, by omega, ?_, ht⟩
  by_cases h0 : k = 0
  · subst h0
    exact fun j hj => by omega
  · refine he.same (hw g fun e => ?_)
    subst e
    have h1 := (he 0 (by omega)).2.2.2.1
    rw [(cells4 hP).2.2.2.1] at h1
    simp at h1
theorem Els.like' {w : World} {g n : Nat} {q : Int} {f f' : Nat → Int} (he : Els w g q f n) (h : ∀ i, i < n → f i = f' i) : Els w g q f' n := fun i hi => by
  rw [← h i hi]; exact he i hi
end Go.Proofs.YtimpgbifnijkkabGreat
