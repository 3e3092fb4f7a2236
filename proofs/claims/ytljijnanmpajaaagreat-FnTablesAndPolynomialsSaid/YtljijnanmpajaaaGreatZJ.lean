/- laws.tPermutes, and polynomials with a given table: good, their values, whether they permute; by contracts. -/
import Derived.Test.YtljijnanmpajaaaGreatZA
import Derived.Test.YtljijnanmpajaaaGreatGC
import Derived.Test.YtljijnanmpajaaaGreatLD
import Derived.Test.YtljijnanmpajaaaGreatKL
namespace Go.Proofs.YtljijnanmpajaaaGreat
open Go.RowKit
theorem ptl_goodZ {m : Nat} {t : Nat → Int} (h : isSz (m : Int) = true) (ht : ∀ i, i < m → El (m : Int) (t i)) : good (m : Int) (ptl m t) = true := by
  obtain ⟨f1, f2, f3⟩ := ptl_form h ht
  have g2 : (ptl m t).all (inF (m : Int)) = true := List.all_eq_true.2 fun x hx => by
    have := f2 x hx
    simpa [inF, El] using this
  by_cases h0 : 0 < (ptl m t).length
  · rw [good_last (by omega) g2 h0]
    exact decide_eq_true (f3 h0)
  · rw [List.length_eq_zero_iff.1 (show (ptl m t).length = 0 by omega)]
    exact good_nil _ (by omega)
theorem ptl_horZ {m : Nat} {t : Nat → Int} (h : isSz (m : Int) = true) (ht : ∀ i, i < m → El (m : Int) (t i)) {x : Int} (hx : El (m : Int) x) :
    hor (m : Int) x (fun i => (ptl m t).getD i 0) (ptl m t).length (ptl m t).length = t x.toNat := by
  obtain ⟨X, rfl⟩ := Int.eq_ofNat_of_zero_le hx.1
  have hel : ∀ i, El (m : Int) ((ptl m t).getD i 0) := fun i => by
    by_cases hi : i < (ptl m t).length
    · exact good_el (ptl_goodZ h ht) i hi
    · rw [List.getD_eq_getElem?_getD, List.getElem?_eq_none (by omega)]
      exact El.zero h
  rw [hor_val h hx hel, ptl_at h ht X (by have := hx.2; omega), Int.toNat_natCast]
theorem dis_cgZ {t u : Nat → Int} {m : Nat} (h : ∀ a, a < m → t a = u a) : dis t m = dis u m := by
  unfold dis
  rw [Bool.eq_iff_iff]
  simp only [List.all_eq_true, List.mem_range, decide_eq_true_eq]
  constructor
  · intro hd i hi k hk
    rw [← h i hi, ← h k (by omega)]
    exact hd i hi k hk
  · intro hd i hi k hk
    rw [h i hi, h k (by omega)]
    exact hd i hi k hk
theorem tabF_ptl {m : Nat} {t : Nat → Int} (h : isSz (m : Int) = true) (ht : ∀ i, i < m → El (m : Int) (t i)) (x : Nat) (hx : x < m) : tabF (m : Int) (fun i => (ptl m t).getD i 0) (ptl m t).length x = t x := by
  have := ptl_horZ h ht (El.nat hx)
  rwa [Int.toNat_natCast] at this
set_option maxHeartbeats 2000000 in
/-- laws.tPermutes, of a polynomial. -/
theorem tPermutes_l (m : Nat) (v : Value) (l : List Int) (w : World) (h : isSz (m : Int) = true) (hv : Sl w v l) (hg : good (m : Int) l = true) :
    Calls Tryz.prog 64 #[.int .i64 m, v] w fun e w' => e = .returned (.bool (dis (tabF (m : Int) (fun i => l.getD i 0) l.length) m)) ∧ Below w.heap.size w w' := by
  have HP : Hid (Calls Tryz.prog 150 #[.int .i64 m, v] w fun e w' => e = .returned (.tuple #[.bool (dis (tabF (m : Int) (fun i => l.getD i 0) l.length) m), .bool true]) ∧ Below w.heap.size w w') := Lib.hid (impl_DoesPermute_yes m v l w h hv hg)
  clear hv hg h
  generalize dis (tabF (m : Int) (fun i => l.getD i 0) l.length) m = r at *
  go_enter Tryz.func64, Tryz.ntmps64
  go_wp2_with fail
  refine HP.out.mono ?_
  rintro e w1 ⟨rfl, hb⟩
  go_wp2
  go_ret
  exact ⟨rfl, hb⟩
theorem tPermutes_ptl {m : Nat} {t : Nat → Int} (h : isSz (m : Int) = true) (ht : ∀ i, i < m → El (m : Int) (t i)) (v : Value) (w : World) (hv : Sl w v (ptl m t)) :
    Calls Tryz.prog 64 #[.int .i64 m, v] w fun e w' => e = .returned (.bool (dis t m)) ∧ Below w.heap.size w w' := by
  have := tPermutes_l m v _ w h hv (ptl_goodZ h ht)
  rw [dis_cgZ (tabF_ptl h ht)] at this
  exact this
theorem ptl_le {m : Nat} {t : Nat → Int} (h : isSz (m : Int) = true) (ht : ∀ i, i < m → El (m : Int) (t i)) : (ptl m t).length ≤ 1048576 := by
  have := (ptl_form h ht).1
  have := isSz_le (m : Int) h
  omega
end Go.Proofs.YtljijnanmpajaaaGreat
