/- AdditiveOf and CoefficientsOf, of both, by contracts; the walks of their laws. -/
import Derived.Test.YtgndlpdcebmgmacRD
import Derived.Test.YtgndlpdcebmgmacRE
import Derived.Deep.RegionHeld3
namespace Go.Proofs.Ytgndlpdcebmgmac
open Go.RowKit
/-- A list of coefficients. -/
def coL (q : Int) (l : List Int) : Bool := isSz q && (decide (l.length = plN q) && l.all (inF q))
theorem ne_int {a b : Nat} (h : a ≠ b) : ((a : Int) != (b : Int)) = true := bne_iff_ne.2 (by omega)
theorem eq_int {a b : Nat} (h : a = b) : ((a : Int) != (b : Int)) = false := by subst h; exact bne_self_eq_false _
theorem adTable_off (q : Int) (v : Value) (l : List Int) (w : World) (hv : Sl w v l) (hl : l.length ≤ 1048576) (hg : addL q l = false) :
    Calls Try.prog 25 #[.int .i64 q, v] w fun e w' => ∃ v', e = .returned (.tuple #[v', .bool false]) ∧ Below w.heap.size w w' := by
  unfold addL at hg
  cases h : isSz q && good q l with
  | false => exact (adTable_no q v l w hv hl h).mono (by rintro e w' ⟨rfl, hb⟩; exact ⟨_, rfl, hb⟩)
  | true =>
    rw [h, Bool.true_and] at hg
    simp only [Bool.and_eq_true] at h
    have hq := isSz_le q h.1
    obtain ⟨m, rfl⟩ := Int.eq_ofNat_of_zero_le (show 0 ≤ q by omega)
    have := adTable_yes m v l w h.1 hv h.2
    rw [ad_list h.1 h.2, hg] at this
    exact this.mono (by rintro e w' ⟨v', rfl, hr, hb⟩; exact ⟨_, rfl, hb⟩)
theorem adTable_on (m : Nat) (v : Value) (l : List Int) (w : World) (h : isSz (m : Int) = true) (hv : Sl w v l) (hg : good (m : Int) l = true) (ha : adC m (fun i => l.getD i 0) 0 l.length = true) :
    Calls Try.prog 25 #[.int .i64 m, v] w fun e w' => ∃ v', e = .returned (.tuple #[v', .bool true]) ∧ Row w' w.heap.size v' (fl (tabF (m : Int) (fun i => l.getD i 0) l.length) m) ∧ Below w.heap.size w w' := by
  have := adTable_yes m v l w h hv hg
  rw [ad_list h hg, ha] at this
  exact this
theorem addL_parts {q : Int} {l : List Int} (h : addL q l = true) : ∃ m : Nat, q = (m : Int) ∧ isSz (m : Int) = true ∧ good (m : Int) l = true ∧ adC m (fun i => l.getD i 0) 0 l.length = true := by
  simp only [addL, Bool.and_eq_true] at h
  have hq := isSz_le q h.1.1
  obtain ⟨m, rfl⟩ := Int.eq_ofNat_of_zero_le (show 0 ≤ q by omega)
  exact ⟨m, rfl, h.1.1, h.1.2, h.2⟩
end Go.Proofs.Ytgndlpdcebmgmac
