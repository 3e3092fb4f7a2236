/- The map of a table, as read; laws on maps that the walks want. -/
import Derived.Test.YtljijnanmpajaaaGreatLA
import Derived.Test.YtljijnanmpajaaaGreatKB
import Derived.Maps.RangeWalk
import Derived.Maps.Ext
namespace Go.Proofs.YtljijnanmpajaaaGreat
open Go.RowKit Go.Maps
theorem Tryz.lawI : Keyed Tryz.prog 3 := int_keyed Tryz.underlying3
/-- The map that leads each of the first k numbers to its value. -/
def mp (t : Nat → Int) : Nat → DataW Unit
  | 0 => .map []
  | k + 1 => (mp t k).put (.int .i64 k) (.lit (.int .i64 (t k)))
theorem mp_isMap (t : Nat → Int) (k : Nat) : IsMap (mp t k) := by
  induction k with
  | zero => exact isMap_empty
  | succ n ih => exact ih.put _ _
theorem mp_has (t : Nat → Int) (k x : Nat) : has (mp t k) (.int .i64 x) = decide (x < k) := by
  induction k with
  | zero => simp [mp, has]
  | succ n ih =>
    by_cases e : x = n
    · subst e
      rw [mp, has_put_same (mp_isMap t _) (show WideAt.IsKeyLit (.int .i64 ((x : Nat) : Int)) from trivial)]
      simp
    · rw [mp, has_put_other (by simp; omega), ih]
      by_cases h : x < n
      · simp [h, Nat.lt_succ_of_lt h]
      · have : ¬ x < n + 1 := by omega
        simp [h, this]
theorem mp_keys (t : Nat → Int) (k : Nat) (kl : Lit) (h : has (mp t k) kl = true) : ∃ x, x < k ∧ kl = .int .i64 (x : Nat) := by
  induction k with
  | zero => simp [mp, has] at h
  | succ n ih =>
    by_cases e : kl = .int .i64 (n : Nat)
    · exact ⟨n, by omega, e⟩
    · rw [mp, has_put_other e] at h
      obtain ⟨x, hx, e⟩ := ih h
      exact ⟨x, by omega, e⟩
theorem mp_at (t : Nat → Int) (k x : Nat) (h : x < k) (z : DataW Unit) : (mp t k).atKey (.int .i64 x) z = .lit (.int .i64 (t x)) := by
  induction k with
  | zero => omega
  | succ n ih =>
    by_cases e : x = n
    · subst e
      rw [mp, atKey_put_same (mp_isMap t _) (show WideAt.IsKeyLit (.int .i64 ((x : Nat) : Int)) from trivial)]
    · rw [mp, atKey_put_other (by simp; omega), ih (by omega)]
theorem size_none {D : DataW Unit} (hc : Canon D) : Maps.size D = 0 ↔ ∀ kl, has D kl = false := by
  obtain ⟨es, rfl, _, hk⟩ := hc
  constructor
  · intro h kl
    have : es = [] := by simpa [Maps.size] using h
    subst this
    rfl
  · intro h
    cases es with
    | nil => rfl
    | cons p r =>
      have h1 := h p.1
      have h2 := WideAt.sameKey_self (hk p (by simp))
      simp [has, h2] at h1
theorem ownsMap_below {P : Program} {k : TypeId} {R : Value → Option (DataW Unit × List MemPlace)} {w w' : World} {b n B : Nat} {D : DataW Unit} (h : w.ownsMap P k R b n D) (hb : Below B w w') (hlt : b < B) : w'.ownsMap P k R b n D := by
  obtain ⟨es, clock, hbk, F, hs, hD⟩ := h
  exact ⟨es, clock, (hb.block b hlt).trans hbk, F, hs, hD⟩
theorem ranges_below {P : Program} {k : TypeId} {R : Value → Option (DataW Unit × List MemPlace)} {w w' : World} {b r n cnt B : Nat} {D : DataW Unit} {left : Lit → Bool} (h : w.ranges P k R b r n D left cnt) (hb : Below B w w') (h1 : b < B) (h2 : r < B) : w'.ranges P k R b r n D left cnt := by
  obtain ⟨es, clock, since, seen, c0, e1, F, hs, hD, e2, rest⟩ := h
  exact ⟨es, clock, since, seen, c0, (hb.block b h1).trans e1, F, hs, hD, (hb.block r h2).trans e2, rest⟩
/-- 'make(map[K]V, n)'. -/
theorem run_makeMap_some (t k e : TypeId) (q : IntKind) (a : Int) (w : World) (ht : Tryz.prog.underlying t = some (.map k e)) : (Instr.makeMap t (some (.int q a))).run Tryz.prog w = .ok (.map (some w.heap.size)) (w.alloc (.map #[] 0)) := by
  simp [Instr.makeMap, run_underlying ht, asInt, go_sem, Result.andThen]
theorem int_lit_ne {a b : Int} (h : a ≠ b) : (Lit.int .i64 a) ≠ .int .i64 b := fun e => h (by cases e; rfl)
end Go.Proofs.YtljijnanmpajaaaGreat
