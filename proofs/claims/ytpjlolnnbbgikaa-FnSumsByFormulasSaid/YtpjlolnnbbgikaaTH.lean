/- TwistPoints, of both, by contracts; the walk of its law. -/
import Derived.Test.YtpjlolnnbbgikaaTF
namespace Go.Proofs.Ytpjlolnnbbgikaa
open Go.RowKit
/-- How many of the first numbers have a property. -/
def ncn (P : Nat → Bool) : Nat → Int
  | 0 => 0
  | n + 1 => ncn P n + (if P n then 1 else 0)
theorem ncn_bd (P : Nat → Bool) : ∀ n : Nat, 0 ≤ ncn P n ∧ ncn P n ≤ (n : Int)
  | 0 => ⟨Int.le_refl _, Int.le_refl _⟩
  | n + 1 => by
    have h1 := ncn_bd P n
    show 0 ≤ ncn P n + (if P n then 1 else 0) ∧ ncn P n + (if P n then 1 else 0) ≤ ((n + 1 : Nat) : Int)
    split <;> omega
theorem csm_bd2 {c : Nat → Int} (h : ∀ i, 0 ≤ c i ∧ c i ≤ 16) : ∀ n : Nat, 0 ≤ csm c n ∧ csm c n ≤ 16 * (n : Int)
  | 0 => ⟨Int.le_refl _, Int.le_refl _⟩
  | n + 1 => by
    have h1 := csm_bd2 h n
    have h2 := h n
    show 0 ≤ csm c n + c n ∧ csm c n + c n ≤ 16 * ((n + 1 : Nat) : Int)
    omega
theorem csm_less {c d : Nat → Int} : ∀ n : Nat, (∀ i, i < n → d i = 1 - c i) → csm d n = (n : Int) - csm c n
  | 0, _ => rfl
  | n + 1, h => by
    show csm d n + d n = ((n + 1 : Nat) : Int) - (csm c n + c n)
    rw [csm_less n (fun i hi => h i (by omega)), h n (by omega)]
    omega
/-- The least element with the character -1. -/
def fnr (m : Nat) : Nat := ((List.range 15).findIdx fun n => chi m ((n + 1 : Nat) : Int) == -1) + 1
def odds : List Nat := [3, 5, 7, 9, 11, 13]
theorem odds_of {m : Nat} (h : isSz (m : Int) = true) (ho : (m : Int) % 2 = 1) : m ∈ odds := by
  have hq := isSz_le (m : Int) h
  have hk : ∀ n ∈ List.range 17, isSz ((n : Nat) : Int) = true → n % 2 = 1 → n ∈ odds := by decide +kernel
  exact hk m (List.mem_range.2 (by omega)) h (by omega)
theorem fnr_is {m : Nat} (h : isSz (m : Int) = true) (ho : (m : Int) % 2 = 1) : chi m (fnr m : Int) = -1 ∧ 1 ≤ fnr m ∧ fnr m < m ∧ ∀ i ∈ List.range (fnr m), 1 ≤ i → chi m (i : Int) ≠ -1 := by
  have hk : ∀ m ∈ odds, chi m (fnr m : Int) = -1 ∧ 1 ≤ fnr m ∧ fnr m < m ∧ ∀ i ∈ List.range (fnr m), 1 ≤ i → chi m (i : Int) ≠ -1 := by decide +kernel
  exact hk m (odds_of h ho)
def twQ (m : Nat) (z : Int) : Nat → Bool := fun y => decide (mulF m (fnr m) (mulF m (y : Int) (y : Int)) = z)
theorem twist_one {m : Nat} (h : isSz (m : Int) = true) (ho : (m : Int) % 2 = 1) {z : Int} (hz : El (m : Int) z) : ncn (twQ m z) m = 1 - chi m z := by
  have hk : ∀ m ∈ odds, ∀ z ∈ List.range m, ncn (twQ m (z : Int)) m = 1 - chi m (z : Int) := by decide +kernel
  obtain ⟨k, rfl⟩ := Int.eq_ofNat_of_zero_le hz.1
  exact hk m (odds_of h ho) k (List.mem_range.2 (by have := hz.2; omega))
/-- Points of the twist. -/
def tws (m : Nat) (t : Nat → Int) : Int := 2 * (m : Int) - ((m : Int) + chs m t)
theorem tws_all {m : Nat} {t : Nat → Int} (h : isSz (m : Int) = true) (ho : (m : Int) % 2 = 1) (ht : ∀ i, i < m → El (m : Int) (t i)) : csm (fun x => ncn (twQ m (t x)) m) m = tws m t := by
  rw [csm_less (c := fun x => chi m (t x)) m (fun i hi => twist_one h ho (ht i hi))]
  unfold tws chs
  omega
end Go.Proofs.Ytpjlolnnbbgikaa
