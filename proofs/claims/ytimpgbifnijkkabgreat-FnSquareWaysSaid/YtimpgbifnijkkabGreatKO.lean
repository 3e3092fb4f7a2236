/- A bundle of texts: IK IN. -/
import Derived.Deep.RegionHeld3
import Derived.Test.YtimpgbifnijkkabGreatKI
import Derived.Test.YtimpgbifnijkkabGreatKA
import Derived.Test.YtimpgbifnijkkabGreatKG
namespace Go.Proofs.YtimpgbifnijkkabGreat
open Go.RowKit
/-- Between two places of a row. -/
def iplI (m : Nat) (t : Nat → Int) (a s : Nat) : Nat → Int := fun j => if j < s then ipl m t (a + 1) j else ipl m t a j
theorem iplI_step (m : Nat) (t : Nat → Int) (a s : Nat) : iplI m t a (s + 1) = upd (iplI m t a s) s (addF m (iplI m t a s s) (mulF m (t a) (cf m (a : Int) s))) := by
  funext j
  by_cases e : j = s
  · subst e
    rw [upd_at]
    simp only [iplI, Nat.lt_irrefl, if_false, Nat.lt_succ_self, if_true]
    rfl
  · rw [upd_ne _ _ _ _ e]
    unfold iplI
    by_cases hj : j < s
    · rw [if_pos hj, if_pos (by omega)]
    · rw [if_neg hj, if_neg (by omega)]
theorem iplI_start (m : Nat) (t : Nat → Int) (a : Nat) : iplI m t a 0 = ipl m t a := by
  funext j
  simp [iplI]
theorem iplI_end (m : Nat) (t : Nat → Int) (a : Nat) : fl (iplI m t a m) m = fl (ipl m t (a + 1)) m := fl_congr fun i hi => by simp [iplI, hi]
theorem ipl_zero (m : Nat) (t : Nat → Int) (N : Nat) : List.replicate N 0 = fl (ipl m t 0) N := by
  refine List.ext_getElem (by simp [fl]) fun j h1 h2 => ?_
  simp [fl, ipl, lsum]
theorem Row.lit0one (w : World) (a : Int) : Row (w.alloc (.cells #[.int .i64 a] 3)) w.heap.size (.slice (some ⟨w.heap.size, 0, none⟩) 1 1) (fl (one0 a) 1) := by
  have := World.ownsRow_lit (base := w.heap.size) (e := 3) (size := 1) w #[.int .i64 a] 1 (Nat.le_refl _) (by unfold maxLen; omega) rfl
  exact this
theorem one0_past (a : Int) : ∀ i, 1 ≤ i → one0 a i = 0 := fun i hi => if_neg (by omega)
end Go.Proofs.YtimpgbifnijkkabGreat
