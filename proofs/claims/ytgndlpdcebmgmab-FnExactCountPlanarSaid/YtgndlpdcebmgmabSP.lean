/- Planar tables over 3 and 5 elements, counted by the kernel. No program here. -/
import Derived.Test.YtgndlpdcebmgmabSA
namespace Go.Proofs.Ytgndlpdcebmgmab
/-- The digits of a number, as a table. -/
def tN (m j : Nat) : Nat → Int := fun x => ((j / m ^ x % m : Nat) : Int)
theorem tN_el {m j : Nat} (hm : 0 < m) (x : Nat) : El (m : Int) (tN m j x) := by
  have := Nat.mod_lt (j / m ^ x) hm
  exact ⟨by unfold tN; omega, by unfold tN; omega⟩
def dN (m j a x : Nat) : Nat := (j / m ^ ((x + a) % m) % m + m - j / m ^ x % m) % m
/-- No difference has a value twice. -/
def plC (m j : Nat) : Bool := (List.range (m - 1)).all fun a => (List.range m).all fun y => (List.range y).all fun x => !Nat.beq (dN m j (a + 1) x) (dN m j (a + 1) y)
theorem plC_three : (List.range 27).countP (plC 3) = 18 := by decide +kernel
theorem plC_five : (List.range 3125).countP (plC 5) = 100 := by decide +kernel
theorem mod_tabs : ∀ m ∈ [3, 5], ∀ x ∈ List.range m, ∀ a ∈ List.range m, addF (m : Nat) (x : Nat) (a : Nat) = (((x + a) % m : Nat) : Int) ∧ subF (m : Nat) (x : Nat) (a : Nat) = (((x + m - a) % m : Nat) : Int) := by decide +kernel
theorem mod_tabs' {m x a : Nat} (hm : m = 3 ∨ m = 5) (hx : x < m) (ha : a < m) : addF m x a = (((x + a) % m : Nat) : Int) ∧ subF m x a = (((x + m - a) % m : Nat) : Int) :=
  mod_tabs m (by rcases hm with rfl | rfl <;> simp) x (List.mem_range.2 hx) a (List.mem_range.2 ha)
theorem dft_dN {m j a x : Nat} (hm : m = 3 ∨ m = 5) (hx : x < m) (ha : a < m) : dft m (tN m j) a x = (dN m j a x : Int) := by
  have hp : 0 < m := by omega
  have h1 := (mod_tabs' hm hx ha).1
  show subF m (tN m j (addF m x a).toNat) (tN m j x) = _
  rw [h1, Int.toNat_natCast]
  exact (mod_tabs' hm (Nat.mod_lt _ hp) (Nat.mod_lt _ hp)).2
theorem oc_one {t : Nat → Int} : ∀ n, (∀ i, i < n → 0 ≤ t i) → (∀ x y, x < y → y < n → t x ≠ t y) → ∀ b, oc t n b ≤ 1 := by
  intro n
  induction n with
  | zero => intro _ _ b; show (0 : Int) ≤ 1; omega
  | succ n ih =>
    intro h0 hd b
    have h1 := ih (fun i hi => h0 i (by omega)) (fun x y hxy hy => hd x y hxy (by omega)) b
    have hz : oc t n (t n).toNat = 0 := by
      have hb := (oc_bd t n (t n).toNat).1
      refine Classical.byContradiction fun hn => ?_
      obtain ⟨i, hi, e⟩ := (oc_pos n).1 (show 0 < oc t n (t n).toNat by omega)
      have h2 := h0 i (by omega)
      have h3 := h0 n (by omega)
      exact hd i n hi (by omega) (by omega)
    show upd (oc t n) (t n).toNat (oc t n (t n).toNat + 1) b ≤ 1
    unfold upd
    split
    · omega
    · exact h1
theorem oc_mono (t : Nat → Int) (b n : Nat) : oc t n b ≤ oc t (n + 1) b := by
  show oc t n b ≤ upd (oc t n) (t n).toNat (oc t n (t n).toNat + 1) b
  unfold upd
  split
  · rename_i e; rw [e]; omega
  · exact Int.le_refl _
theorem oc_mono' (t : Nat → Int) (b n : Nat) : ∀ k, oc t n b ≤ oc t (n + k) b := by
  intro k
  induction k with
  | zero => exact Int.le_refl _
  | succ k ih => exact Int.le_trans ih (oc_mono t b (n + k))
theorem oc_two {t : Nat → Int} {n x y : Nat} (hxy : x < y) (hy : y < n) (e : t x = t y) : 2 ≤ oc t n (t y).toNat := by
  have h1 : 0 < oc t y (t y).toNat := (oc_pos y).2 ⟨x, hxy, by rw [e]⟩
  have h2 : oc t (y + 1) (t y).toNat = oc t y (t y).toNat + 1 := by
    show upd (oc t y) (t y).toNat (oc t y (t y).toNat + 1) (t y).toNat = _
    unfold upd
    rw [if_pos rfl]
  have h3 := oc_mono' t (t y).toNat (y + 1) (n - (y + 1))
  rw [show y + 1 + (n - (y + 1)) = n by omega] at h3
  omega
theorem plC_iff {m j : Nat} : plC m j = true ↔ ∀ a, a + 1 < m → ∀ x y, x < y → y < m → dN m j (a + 1) x ≠ dN m j (a + 1) y := by
  unfold plC
  rw [List.all_eq_true]
  constructor
  · intro h a ha x y hxy hy e
    have h1 := List.all_eq_true.1 (h a (List.mem_range.2 (by omega))) y (List.mem_range.2 hy)
    have h2 := List.all_eq_true.1 h1 x (List.mem_range.2 hxy)
    rw [e] at h2
    simp at h2
  · intro h a ha
    have ha' := List.mem_range.1 ha
    refine List.all_eq_true.2 fun y hy => List.all_eq_true.2 fun x hx => ?_
    have h1 := h a (by omega) x y (List.mem_range.1 hx) (List.mem_range.1 hy)
    rw [Bool.not_eq_true', ← Bool.not_eq_true]
    intro hb
    exact h1 (Nat.eq_of_beq_eq_true hb)
theorem isSz35 {m : Nat} (hm : m = 3 ∨ m = 5) : isSz (m : Int) = true := by rcases hm with rfl | rfl <;> decide
/-- Planar, by the counts or by the differences. -/
theorem plC_gr {m : Nat} (j : Nat) (hm : m = 3 ∨ m = 5) : plC m j = decide (gr (spr m (tN m j)) m = 1) := by
  have h := isSz35 hm
  have hp : 0 < m := by omega
  have ht : ∀ i, i < m → El (m : Int) (tN m j i) := fun i _ => tN_el hp i
  rw [← planar_ways h ht]
  apply bx_ext
  rw [plC_iff, ho_iff]
  constructor
  · intro hd k hk hpos
    rw [has1]
    obtain ⟨a, b, ha, hb, e⟩ := spr_pos.1 hpos
    have hall : ∀ i, i < m → oc (dft m (tN m j) (a + 1)) m i ≤ 1 := fun i _ => oc_one m (fun x hx => (dft_el h ht (a + 1) (by omega) x hx).1) (fun x y hxy hy => by
      rw [dft_dN hm (by omega) (by omega), dft_dN hm hy (by omega)]
      have := hd a ha x y hxy hy
      omega) i
    have h1 := tsm_le hb hall
    rw [tsm_oc m (fun x hx => dft_el h ht (a + 1) (by omega) x hx)] at h1
    have hbd := oc_bd (dft m (tN m j) (a + 1)) m b
    have h2 := hall b hb
    omega
  · intro hh a ha x y hxy hy e
    have e2 : dft m (tN m j) (a + 1) x = dft m (tN m j) (a + 1) y := by
      rw [dft_dN hm (by omega) (by omega), dft_dN hm hy (by omega), e]
    have h2 := oc_two (t := dft m (tN m j) (a + 1)) hxy hy e2
    have hel := dft_el h ht (a + 1) (by omega) y hy
    have hbd := oc_bd (dft m (tN m j) (a + 1)) m (dft m (tN m j) (a + 1) y).toNat
    have h3 := (spr_pos (m := m) (t := tN m j)).2 ⟨a, (dft m (tN m j) (a + 1) y).toNat, ha, by have := hel.1; have := hel.2; omega, rfl⟩
    have h4 := (has1 _).1 (hh _ (by omega) h3)
    omega
/-- How many of the first n tables are planar. -/
def cpl (m n : Nat) : Nat := (List.range n).countP (plC m)
theorem cpl_succ (m n : Nat) : cpl m (n + 1) = cpl m n + if plC m n then 1 else 0 := by
  unfold cpl
  rw [List.range_succ, List.countP_append]
  simp [List.countP_cons]
theorem cpl_le (m n : Nat) : cpl m n ≤ n := by
  have := List.countP_le_length (p := plC m) (l := List.range n)
  simpa [cpl] using this
theorem cpl_all {m : Nat} (hm : m = 3 ∨ m = 5) : (cpl m (m ^ m) : Int) = m * m * (m - 1) := by
  rcases hm with rfl | rfl
  · show ((cpl 3 27 : Nat) : Int) = _
    rw [show cpl 3 27 = 18 from plC_three]
    rfl
  · show ((cpl 5 3125 : Nat) : Int) = _
    rw [show cpl 5 3125 = 100 from plC_five]
    rfl
theorem pow35 {m : Nat} (hm : m = 3 ∨ m = 5) : ∀ k, k ≤ m → 1 ≤ m ^ k ∧ m ^ k ≤ 3125 := by
  rcases hm with rfl | rfl
  · exact fun k hk => ⟨Nat.pow_pos (by decide), Nat.le_trans (Nat.pow_le_pow_right (by decide) hk) (by decide)⟩
  · exact fun k hk => ⟨Nat.pow_pos (by decide), Nat.le_trans (Nat.pow_le_pow_right (by decide) hk) (by decide)⟩
end Go.Proofs.Ytgndlpdcebmgmab
