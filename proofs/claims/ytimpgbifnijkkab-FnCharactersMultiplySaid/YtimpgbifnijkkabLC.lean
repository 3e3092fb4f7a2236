/- The steps of a polynomial as a map; a copy of a map; whether it permutes: of the program. -/
import Derived.Test.YtimpgbifnijkkabLB
import Derived.Test.YtimpgbifnijkkabKP
import Derived.Laws.Externs
import Derived.Shelf.SlMaps.Clone
namespace Go.Proofs.Ytimpgbifnijkkab
open Go.RowKit Go.Maps
theorem left_fst {left : Lit → Bool} {i x : Nat} (hne : i ≠ x) : (fun z : Lit => left z && !z.sameKey (.int .i64 (x : Int))) (.int .i64 (i : Int)) = left (.int .i64 (i : Int)) := by
  have : (Lit.int .i64 (i : Int)).sameKey (.int .i64 (x : Int)) = false := sameKey_ne (int_lit_ne (by omega))
  simp [this]
theorem left_self {left : Lit → Bool} {x : Nat} : (fun z : Lit => left z && !z.sameKey (.int .i64 (x : Int))) (.int .i64 (x : Int)) = false := by
  have : (Lit.int .i64 (x : Int)).sameKey (.int .i64 (x : Int)) = true := WideAt.sameKey_self (show WideAt.IsKeyLit (.int .i64 (x : Int)) from trivial)
  simp [this]
/-- What is missing: those whose places are all still to come. -/
def Miss (t : Nat → Int) (m : Nat) (D : DataW Unit) (left : Lit → Bool) : Prop :=
  (∀ x, x < m → (has D (.int .i64 (x : Nat)) = true ↔ ∀ i, i < m → t i = (x : Int) → left (.int .i64 (i : Nat)) = true)) ∧ ∀ kl, has D kl = true → ∃ x, x < m ∧ kl = .int .i64 (x : Nat)
theorem miss_start (t : Nat → Int) (m : Nat) : Miss t m (mp t m) (has (mp t m)) :=
  ⟨fun x hx => ⟨fun _ i hi _ => by rw [mp_has]; simp [hi], fun _ => by rw [mp_has]; simp [hx]⟩, fun kl h => mp_keys t m kl h⟩
theorem miss_step {t : Nat → Int} {m x : Nat} {D : DataW Unit} {left : Lit → Bool} (h : Miss t m D left) (hx : x < m) : Miss t m (D.del (.int .i64 (t x))) (fun z => left z && !z.sameKey (.int .i64 (x : Nat))) := by
  constructor
  · intro y hy
    by_cases e : t x = (y : Int)
    · rw [e, has_del_same]
      constructor
      · intro h; cases h
      · intro h
        have h1 := h x hx e
        rw [left_self] at h1
        cases h1
    · rw [has_del_other (int_lit_ne (fun e' => e e'.symm)), h.1 y hy]
      constructor
      · intro h1 i hi e2
        rw [left_fst (fun e3 => e (by rw [← e3]; exact e2))]
        exact h1 i hi e2
      · intro h1 i hi e2
        have h2 := h1 i hi e2
        rw [left_fst (fun e3 => e (by rw [← e3]; exact e2))] at h2
        exact h2
  · intro kl hk
    by_cases e : kl = .int .i64 (t x)
    · rw [e, has_del_same] at hk
      cases hk
    · rw [has_del_other e] at hk
      exact h.2 kl hk
theorem miss_end {t : Nat → Int} {m : Nat} {D : DataW Unit} {left : Lit → Bool} (h : Miss t m D left) (hl : ∀ kl, left kl = false) (hc : Canon D) : ((Maps.size D : Int) == 0) = onto t m := by
  have h1 := size_none hc
  cases ho : onto t m with
  | true =>
    have h2 := onto_iff.1 ho
    have : Maps.size D = 0 := h1.2 fun kl => by
      cases hk : has D kl with
      | false => rfl
      | true =>
        obtain ⟨x, hx, rfl⟩ := h.2 kl hk
        obtain ⟨i, hi, e⟩ := h2 x hx
        have := (h.1 x hx).1 hk i hi e
        rw [hl] at this
        cases this
    simp [this]
  | false =>
    have : Maps.size D ≠ 0 := fun e => by
      have h3 := h1.1 e
      have : onto t m = true := onto_iff.2 fun x hx => Classical.byContradiction fun hno => by
        have := (h.1 x hx).2 fun i hi e => absurd ⟨i, hi, e⟩ hno
        rw [h3] at this
        cases this
      rw [ho] at this
      cases this
    simp
    omega
end Go.Proofs.Ytimpgbifnijkkab
