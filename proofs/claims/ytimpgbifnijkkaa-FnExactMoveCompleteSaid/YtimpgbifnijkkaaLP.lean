/- SwapPoly, of both, by contracts; the walk of its law. -/
import Derived.Test.YtimpgbifnijkkaaLN
import Derived.Test.YtimpgbifnijkkaaKL
namespace Go.Proofs.Ytimpgbifnijkkaa
open Go.RowKit
/-- Two elements exchanged. -/
def swT (a b : Nat) : Nat → Int := upd (upd (fun i => (i : Int)) a b) b a
theorem swT_el {m a b : Nat} (ha : a < m) (hb : b < m) : ∀ i, i < m → El (m : Int) (swT a b i) := by
  intro i hi
  unfold swT
  by_cases e : i = b
  · subst e; rw [upd_at]; exact El.nat ha
  · rw [upd_ne _ _ _ _ e]
    by_cases e : i = a
    · subst e; rw [upd_at]; exact El.nat hb
    · rw [upd_ne _ _ _ _ e]; exact El.nat hi
theorem sw_same (a : Nat) : swT a a = fun i : Nat => (i : Int) := by
  funext i
  unfold swT
  by_cases e : i = a
  · subst e; rw [upd_at]
  · rw [upd_ne _ _ _ _ e, upd_ne _ _ _ _ e]
theorem sw_nil (m a : Nat) : ftl m (cyT [] 0) = ftl m (swT a a) := ftl_congr fun i _ => by rw [sw_same]; rfl
theorem sw_two (m a b : Nat) : ftl m (cyT [(a : Int), (b : Int)] 2) = ftl m (swT a b) := ftl_congr fun i _ => by simp [cyT, swT]
theorem Row.lit2 (w : World) (a b : Int) : Row (w.alloc (.cells #[.int .i64 a, .int .i64 b] 3)) w.heap.size (.slice (some ⟨w.heap.size, 0, none⟩) 2 2) [a, b] := by
  have := World.ownsRow_lit (base := w.heap.size) (e := 3) (size := 1) w #[.int .i64 a, .int .i64 b] 2 (Nat.le_refl _) (by unfold maxLen; omega) rfl
  exact this
theorem pairOf_no (q a b : Int) (w : World) (h : (inE q a && inE q b) = false) :
    Calls Try.prog 57 #[.int .i64 q, .int .i64 a, .int .i64 b] w fun e w' => e = .returned (.tuple #[elZ, elZ, .bool false]) ∧ Below w.heap.size w w' := by
  cases ha : inE q a with
  | false =>
    cases hb : inE q b with
    | false => exact pairOf_no1 q a b w ha hb
    | true => exact pairOf_no2 q a b w ha hb
  | true =>
    rw [ha] at h
    exact pairOf_no3 q a b w ha h
end Go.Proofs.Ytimpgbifnijkkaa
