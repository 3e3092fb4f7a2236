/- What FnCharactersMultiply asks: characters multiply, points are as many as told, and listed in order. -/
import Derived.Test.YtimpgbifnijkkabTH
import Derived.Test.YtimpgbifnijkkabTI
namespace Go.Proofs.Ytimpgbifnijkkab
open Go.RowKit
theorem chi_times {m : Nat} (h : isSz (m : Int) = true) (ho : (m : Int) % 2 = 1) {a b : Int} (ha : El (m : Int) a) (hb : El (m : Int) b) : chi m (mulF m a b) = chi m a * chi m b := by
  have hk : ∀ m ∈ odds, ∀ a ∈ List.range m, ∀ b ∈ List.range m, chi m (mulF m (a : Int) (b : Int)) = chi m (a : Int) * chi m (b : Int) := by decide +kernel
  obtain ⟨i, rfl⟩ := Int.eq_ofNat_of_zero_le ha.1
  obtain ⟨j, rfl⟩ := Int.eq_ofNat_of_zero_le hb.1
  exact hk m (odds_of h ho) i (List.mem_range.2 (by have := ha.2; omega)) j (List.mem_range.2 (by have := hb.2; omega))
theorem chi_all {m : Nat} (h : isSz (m : Int) = true) (ho : (m : Int) % 2 = 1) : csm (fun b => chi m (b : Int)) m = 0 := by
  have hk : ∀ m ∈ odds, csm (fun b => chi m (b : Int)) m = 0 := by decide +kernel
  exact hk m (odds_of h ho)
theorem chi_sq {m : Nat} (h : isSz (m : Int) = true) (ho : (m : Int) % 2 = 1) {a : Int} (ha : El (m : Int) a) : isSq m a = decide (0 ≤ chi m a) := by
  have hk : ∀ m ∈ odds, ∀ a ∈ List.range m, isSq m (a : Int) = decide (0 ≤ chi m (a : Int)) := by decide +kernel
  obtain ⟨i, rfl⟩ := Int.eq_ofNat_of_zero_le ha.1
  exact hk m (odds_of h ho) i (List.mem_range.2 (by have := ha.2; omega))
/-- How many points over x: the same for all x. -/
theorem ptx_count (m x : Nat) (z : Int) : ∀ y, (ptx m x z y).length = (ptx m 0 z y).length
  | 0 => rfl
  | y + 1 => by
    by_cases h : mulF m (y : Int) (y : Int) = z
    · rw [ptx_yes h, ptx_yes h, List.length_append, List.length_append, ptx_count m x z y]
      rfl
    · rw [ptx_no h, ptx_no h, ptx_count m x z y]
theorem ptx_chi {m : Nat} (h : isSz (m : Int) = true) (ho : (m : Int) % 2 = 1) (x : Nat) {z : Int} (hz : El (m : Int) z) : ((ptx m x z m).length : Int) = 1 + chi m z := by
  rw [ptx_count]
  have hk : ∀ m ∈ odds, ∀ z ∈ List.range m, ((ptx m 0 (z : Int) m).length : Int) = 1 + chi m (z : Int) := by decide +kernel
  obtain ⟨i, rfl⟩ := Int.eq_ofNat_of_zero_le hz.1
  exact hk m (odds_of h ho) i (List.mem_range.2 (by have := hz.2; omega))
theorem pts_chi {m : Nat} (h : isSz (m : Int) = true) (ho : (m : Int) % 2 = 1) {t : Nat → Int} : ∀ x : Nat, (∀ i, i < x → El (m : Int) (t i)) → ((pts m t x).length : Int) = (x : Int) + csm (fun i => chi m (t i)) x
  | 0, _ => rfl
  | x + 1, ht => by
    have h1 := pts_chi h ho x (fun i hi => ht i (by omega))
    have h2 := ptx_chi h ho x (ht x (by omega))
    rw [pts, List.length_append]
    show (((pts m t x).length + (ptx m x (t x) m).length : Nat) : Int) = ((x + 1 : Nat) : Int) + (csm (fun i => chi m (t i)) x + chi m (t x))
    omega
/-- A point on the curve, and one list of them in order. -/
def PtOn (m : Nat) (t : Nat → Int) (p : List Int) : Prop := ∃ x y : Nat, p = [(x : Int), (y : Int)] ∧ x < m ∧ y < m ∧ mulF m (y : Int) (y : Int) = t x
/-- The one lies before the other. -/
def before (p r : List Int) : Prop := p.getD 0 0 < r.getD 0 0 ∨ (p.getD 0 0 = r.getD 0 0 ∧ p.getD 1 0 < r.getD 1 0)
theorem ptx_on {m x : Nat} {t : Nat → Int} (hx : x < m) : ∀ y, y ≤ m → ∀ p ∈ ptx m x (t x) y, PtOn m t p ∧ p.getD 0 0 = (x : Int) ∧ p.getD 1 0 < (y : Int)
  | 0, _, p, hp => by cases hp
  | y + 1, hy, p, hp => by
    by_cases h : mulF m (y : Int) (y : Int) = t x
    · rw [ptx_yes h, List.mem_append] at hp
      rcases hp with hp | hp
      · obtain ⟨h1, h2, h3⟩ := ptx_on hx y (by omega) p hp
        exact ⟨h1, h2, by omega⟩
      · simp at hp
        subst hp
        exact ⟨⟨x, y, rfl, hx, by omega, h⟩, rfl, by show (y : Int) < ((y + 1 : Nat) : Int); omega⟩
    · rw [ptx_no h] at hp
      obtain ⟨h1, h2, h3⟩ := ptx_on hx y (by omega) p hp
      exact ⟨h1, h2, by omega⟩
theorem pts_on {m : Nat} {t : Nat → Int} : ∀ x, x ≤ m → ∀ p ∈ pts m t x, PtOn m t p ∧ p.getD 0 0 < (x : Int)
  | 0, _, p, hp => by cases hp
  | x + 1, hx, p, hp => by
    rw [pts, List.mem_append] at hp
    rcases hp with hp | hp
    · obtain ⟨h1, h2⟩ := pts_on x (by omega) p hp
      exact ⟨h1, by omega⟩
    · obtain ⟨h1, h2, _⟩ := ptx_on (show x < m by omega) m (Nat.le_refl _) p hp
      exact ⟨h1, by omega⟩
theorem ptx_sorted {m x : Nat} {t : Nat → Int} (hx : x < m) : ∀ y, y ≤ m → (ptx m x (t x) y).Pairwise before
  | 0, _ => List.Pairwise.nil
  | y + 1, hy => by
    by_cases h : mulF m (y : Int) (y : Int) = t x
    · rw [ptx_yes h, List.pairwise_append]
      refine ⟨ptx_sorted hx y (by omega), by simp, fun p hp r hr => ?_⟩
      simp at hr
      subst hr
      obtain ⟨_, h2, h3⟩ := ptx_on hx y (by omega) p hp
      exact .inr ⟨h2, h3⟩
    · rw [ptx_no h]
      exact ptx_sorted hx y (by omega)
theorem pts_sorted {m : Nat} {t : Nat → Int} : ∀ x, x ≤ m → (pts m t x).Pairwise before
  | 0, _ => List.Pairwise.nil
  | x + 1, hx => by
    rw [pts, List.pairwise_append]
    refine ⟨pts_sorted x (by omega), ptx_sorted (by omega) m (Nat.le_refl _), fun p hp r hr => ?_⟩
    obtain ⟨_, h2⟩ := pts_on x (by omega) p hp
    obtain ⟨_, h3, _⟩ := ptx_on (show x < m by omega) m (Nat.le_refl _) r hr
    exact .inl (by omega)
end Go.Proofs.Ytimpgbifnijkkab
