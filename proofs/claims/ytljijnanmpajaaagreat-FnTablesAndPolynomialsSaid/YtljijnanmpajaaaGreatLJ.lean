/- The polynomial with a table: spec.plFrom and polyWithTable told by one list; the table of one cycle; spec.peOf. -/
import Derived.Test.YtljijnanmpajaaaGreatLA
import Derived.Test.YtljijnanmpajaaaGreatKO
import Derived.Test.YtljijnanmpajaaaGreatKP
namespace Go.Proofs.YtljijnanmpajaaaGreat
open Go.RowKit
theorem from_same' {m : Nat} {t : Nat → Int} (h : isSz (m : Int) = true) (ht : ∀ i, El m (t i)) : fl (redR m (tms m t) m) (redn m (tms m t) m) = fl (ipl m t m) (sn (ipl m t m) m) := by
  have hs : ∀ j, j < m → redR m (tms m t) m j = ipl m t m j := fun j hj => by
    rw [redR_small m _ h (tms_el h ht) m (Nat.le_refl _), if_pos hj, tms_same h ht]
  have e : redn m (tms m t) m = sn (ipl m t m) m := by
    unfold redn
    exact sn_congr hs
  rw [e]
  refine fl_congr fun i hi => hs i ?_
  have := sn_le (ipl m t m) m
  omega
/-- The polynomial with a table. -/
def ftl (m : Nat) (t : Nat → Int) : List Int := fl (ipl m (clm m t) m) (sn (ipl m (clm m t) m) m)
theorem ftl_len (m : Nat) (t : Nat → Int) : (ftl m t).length ≤ m := by
  rw [ftl, fl_len]
  exact sn_le _ _
theorem clm_congr {m : Nat} {t u : Nat → Int} (h : ∀ i, i < m → t i = u i) : clm m t = clm m u := by
  funext i
  unfold clm
  by_cases hi : i < m
  · rw [if_pos hi, if_pos hi, h i hi]
  · rw [if_neg hi, if_neg hi]
theorem ftl_congr {m : Nat} {t u : Nat → Int} (h : ∀ i, i < m → t i = u i) : ftl m t = ftl m u := by
  unfold ftl
  rw [clm_congr h]
theorem fl_clm (m : Nat) (t : Nat → Int) : fl (clm m t) m = fl t m := fl_congr fun i hi => by simp [clm, hi]
theorem plFromT (m : Nat) (v : Value) (t : Nat → Int) (w : World) (h : isSz (m : Int) = true) (hv : Sl w v (fl t m)) (ht : ∀ i, i < m → El (m : Int) (t i)) :
    Calls Tryz.prog 101 #[.int .i64 m, v] w fun e w' => ∃ v', e = .returned v' ∧ Row w' w.heap.size v' (ftl m t) ∧ Below w.heap.size w w' :=
  plFrom_any m v (clm m t) w h (by rw [fl_clm]; exact hv) (clm_el h ht)
theorem withTableT (m : Nat) (v : Value) (t : Nat → Int) (w : World) (h : isSz (m : Int) = true) (hv : Se w v (m : Int) t m) (ht : ∀ i, i < m → El (m : Int) (t i)) :
    Calls Tryz.prog 92 #[fdE (m : Int), v] w fun e w' => ∃ g k cap f, e = .returned (polyE (m : Int) (.slice (some ⟨g, 0, none⟩) k cap)) ∧ g < w'.heap.size ∧ Els w' g (m : Int) f k ∧ (∀ i, El (m : Int) (f i)) ∧ k ≤ m ∧ fl f k = ftl m t ∧ Below w.heap.size w w' := by
  have hel := clm_el h ht
  refine (polyWithTableE m v (clm m t) w h (hv.like fun i hi => by simp [clm, hi]) hel).mono ?_
  rintro e w' ⟨g, cap, rfl, hg, he, hb⟩
  exact ⟨g, _, cap, _, rfl, hg, he, fun i => redR_el m _ h (tms_el h hel) _ _, sn_le _ _, from_same' h hel, hb⟩
/-- The table of one cycle, after k of its elements. -/
def cyT (l : List Int) : Nat → (Nat → Int)
  | 0 => fun i => (i : Int)
  | k + 1 => upd (cyT l k) (l.getD k 0).toNat (l.getD ((k + 1) % l.length) 0)
theorem cyT_el {m : Nat} {l : List Int} (hl : ∀ i, i < l.length → El (m : Int) (l.getD i 0)) (k : Nat) (hk : k ≤ l.length) : ∀ i, i < m → El (m : Int) (cyT l k i) := by
  induction k with
  | zero => exact fun i hi => El.nat hi
  | succ k ih =>
    intro i hi
    by_cases e : i = (l.getD k 0).toNat
    · subst e
      rw [cyT, upd_at]
      exact hl _ (Nat.mod_lt _ (by omega))
    · rw [cyT, upd_ne _ _ _ _ e]
      exact ih (by omega) i hi
theorem mod_next (k n : Nat) (_h : k < n) : ((k : Int) + 1) % (n : Int) = (((k + 1) % n : Nat) : Int) := rfl
end Go.Proofs.YtljijnanmpajaaaGreat
