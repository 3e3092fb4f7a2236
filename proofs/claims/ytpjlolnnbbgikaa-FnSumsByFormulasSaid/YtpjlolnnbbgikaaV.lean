/- The walk of the law of the modulus. -/
import Derived.Test.YtpjlolnnbbgikaaKE
import Derived.Test.YtpjlolnnbbgikaaKC
namespace Go.Proofs.Ytpjlolnnbbgikaa
open Go.RowKit

/-- The modulus, whole. -/
def mdlW (q : Int) : List Int := mdl q ++ [1]
theorem mdlW_len (q : Int) (h : isSz q = true) : (mdlW q).length = plN q + 1 := by
  rw [mdlW, List.length_append, (mdl_len q h).1]
  rfl
theorem modE (q : Int) (h : isSz q = true) : ∃ x0 x1 x2 x3 x4 : Int, (∀ w, Calls Try.prog 91 #[fdE q] w fun e w' => e = .returned (.agg #[.int .i64 x0, .int .i64 x1, .int .i64 x2, .int .i64 x3, .int .i64 x4]) ∧ Below w.heap.size w w') ∧
    (mdlW q) = [x0, x1, x2, x3, x4].take (plN q + 1) := by
  have hb : ∀ (w w' : World) (A B : Obj), (w.alloc A).alloc B = w' → Below w.heap.size w w' := by
    rintro w w' A B rfl
    exact ((Below.refl _ _).alloc (Nat.le_refl _) _).alloc (by simp) _
  rcases five q h with ⟨hk, hp, q2, q13, n4, n8, n9, n16⟩ | rfl | rfl | rfl | rfl
  · refine ⟨0, 1, 0, 0, 0, fun w => ?_, by simp [mdlW, mdl, hk, n4, n8, n9, n16]⟩
    rw [show fdE q = .agg #[.int .i64 q, .int .i64 q, .int .i64 1] from by simp [fdE, pl, hk, hp]]
    exact (modulus_one q w (by simp [n4]) (by simp [n8]) (by simp [n9]) (by simp [n16])).mono fun _ _ ⟨he, hw⟩ => ⟨he, hb _ _ _ _ hw⟩
  · refine ⟨1, 1, 1, 0, 0, fun w => ?_, rfl⟩
    rw [show fdE 4 = .agg #[.int .i64 4, .int .i64 2, .int .i64 2] from by simp [fdE, pl, pr, plN]]
    exact (modulus_4 w).mono fun _ _ ⟨he, hw⟩ => ⟨he, hb _ _ _ _ hw⟩
  · refine ⟨1, 1, 0, 1, 0, fun w => ?_, rfl⟩
    rw [show fdE 8 = .agg #[.int .i64 8, .int .i64 2, .int .i64 3] from by simp [fdE, pl, pr, plN]]
    exact (modulus_8 w).mono fun _ _ ⟨he, hw⟩ => ⟨he, hb _ _ _ _ hw⟩
  · refine ⟨1, 0, 1, 0, 0, fun w => ?_, rfl⟩
    rw [show fdE 9 = .agg #[.int .i64 9, .int .i64 3, .int .i64 2] from by simp [fdE, pl, pr, plN]]
    exact (modulus_9 w).mono fun _ _ ⟨he, hw⟩ => ⟨he, hb _ _ _ _ hw⟩
  · refine ⟨1, 1, 0, 0, 1, fun w => ?_, rfl⟩
    rw [show fdE 16 = .agg #[.int .i64 16, .int .i64 2, .int .i64 4] from by simp [fdE, pl, pr, plN]]
    exact (modulus_16 w).mono fun _ _ ⟨he, hw⟩ => ⟨he, hb _ _ _ _ hw⟩

end Go.Proofs.Ytpjlolnnbbgikaa
