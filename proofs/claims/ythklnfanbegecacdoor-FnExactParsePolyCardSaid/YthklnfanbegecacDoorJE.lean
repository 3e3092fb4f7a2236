/- Texts that are read back: words between commas, small numbers. No program here. -/
import Derived.Lib.Split
import Derived.Lib.AtoiAll
import Derived.Test.YthklnfanbegecacDoorJA
namespace Go.Proofs.YthklnfanbegecacDoor
open Go.Lib
/-- No comma. -/
def Dry (l : List UInt8) : Prop := ∀ c ∈ l, c ≠ 44
/-- The words between commas. -/
def spl : List UInt8 → List (List UInt8)
  | [] => [[]]
  | c :: r => if c = 44 then [] :: spl r else (c :: (spl r).headD []) :: (spl r).tail
theorem spl_ne (l : List UInt8) : spl l ≠ [] := by
  cases l with
  | nil => simp [spl]
  | cons c r => unfold spl; split <;> simp
theorem spl_app (a b : List UInt8) : spl (a ++ 44 :: b) = spl a ++ spl b := by
  induction a with
  | nil => simp [spl]
  | cons c r ih =>
    rw [List.cons_append]
    by_cases h : c = 44
    · simp [spl, h, ih]
    · obtain ⟨x, t, e⟩ : ∃ x t, spl r = x :: t := by
        cases hr : spl r with
        | nil => exact absurd hr (spl_ne r)
        | cons x t => exact ⟨x, t, rfl⟩
      simp [spl, h, ih, e]
theorem spl_dry (a : List UInt8) (h : Dry a) : spl a = [a] := by
  induction a with
  | nil => rfl
  | cons c r ih =>
    have hc : c ≠ 44 := h c (by simp)
    have hr : Dry r := fun d hd => h d (by simp [hd])
    simp [spl, hc, ih hr]
theorem spl_len (l : List UInt8) : 1 ≤ (spl l).length := by
  have := spl_ne l
  cases h : spl l with
  | nil => exact absurd h this
  | cons x t => simp
theorem cut_or (s : List UInt8) : Dry s ∨ ∃ a b, s = a ++ 44 :: b ∧ Dry a := by
  induction s with
  | nil => exact .inl fun c hc => by cases hc
  | cons c r ih =>
    by_cases h : c = 44
    · exact .inr ⟨[], r, by simp [h], fun d hd => by cases hd⟩
    · rcases ih with hd | ⟨a, b, rfl, ha⟩
      · refine .inl fun d hd' => ?_
        rcases List.mem_cons.1 hd' with rfl | hd'
        · exact h
        · exact hd d hd'
      · refine .inr ⟨c :: a, b, rfl, fun d hd' => ?_⟩
        rcases List.mem_cons.1 hd' with rfl | hd'
        · exact h
        · exact ha d hd'
theorem idx_dry (a : List UInt8) (h : Dry a) : index a [44] = -1 := by
  induction a with
  | nil => rfl
  | cons c r ih =>
    have hc : c ≠ 44 := h c (by simp)
    have hr : Dry r := fun d hd => h d (by simp [hd])
    have hp : [(44 : UInt8)].isPrefixOf (c :: r) = false := by simp [List.isPrefixOf]; exact fun e => hc e.symm
    unfold index
    rw [hp, ih hr]
    rfl
theorem idx_cut (a b : List UInt8) (h : Dry a) : index (a ++ 44 :: b) [44] = a.length := by
  induction a with
  | nil =>
    show index (44 :: b) [44] = 0
    unfold index
    rw [if_pos (by simp [List.isPrefixOf])]
  | cons c r ih =>
    have hc : c ≠ 44 := h c (by simp)
    have hr : Dry r := fun d hd => h d (by simp [hd])
    have hp : [(44 : UInt8)].isPrefixOf (c :: (r ++ 44 :: b)) = false := by simp [List.isPrefixOf]; exact fun e => hc e.symm
    rw [List.cons_append]
    unfold index
    rw [hp, ih hr]
    have hne : ((r.length : Int) == -1) = false := beq_eq_false_iff_ne.2 (by omega)
    simp only [Bool.false_eq_true, if_false, hne]
    simp
/-- What the library splits is what lies between commas, where its limit suffices. -/
theorem splitK_spl (k : Nat) (s : List UInt8) (h : (spl s).length ≤ k + 1) : splitK [44] 0 k s = spl s := by
  induction k generalizing s with
  | zero =>
    rcases cut_or s with hd | ⟨a, b, rfl, ha⟩
    · rw [spl_dry s hd]
      rfl
    · rw [spl_app, List.length_append] at h
      have h1 := spl_len a
      have h2 := spl_len b
      omega
  | succ k ih =>
    unfold splitK
    rcases cut_or s with hd | ⟨a, b, rfl, ha⟩
    · rw [idx_dry s hd, spl_dry s hd]
      rfl
    · rw [idx_cut a b ha]
      have hne : ((a.length : Int) == -1) = false := beq_eq_false_iff_ne.2 (by omega)
      rw [spl_app, spl_dry a ha] at h ⊢
      rw [hne]
      simp only [Bool.false_eq_true, if_false, Int.toNat_natCast, List.length_singleton, Nat.add_zero]
      rw [List.take_left, show (a ++ 44 :: b).drop (a.length + 1) = b from by rw [List.drop_append]; simp]
      rw [ih b (by simp at h; omega)]
      rfl
/-! ### small numbers -/
theorem dec_low (u : Nat) (h : u < 10) : decDigits u = [UInt8.ofNat (48 + u)] := by
  unfold decDigits
  rw [dif_pos h]
theorem dec_two (u : Nat) (h : 10 ≤ u) (h2 : u < 100) : decDigits u = [UInt8.ofNat (48 + u / 10), UInt8.ofNat (48 + u % 10)] := by
  unfold decDigits
  rw [dif_neg (by omega), dec_low (u / 10) (by omega)]
  rfl
/-- The numbers below 16 by their bytes. -/
def small16 : List (List UInt8) := [[48], [49], [50], [51], [52], [53], [54], [55], [56], [57], [49, 48], [49, 49], [49, 50], [49, 51], [49, 52], [49, 53]]
theorem num_small (x : Int) (h0 : 0 ≤ x) (h1 : x < 16) : num x = small16.getD x.toNat [] := by
  obtain ⟨u, rfl⟩ := Int.eq_ofNat_of_zero_le h0
  have hu : u < 16 := by omega
  show decDigits u = small16.getD u []
  by_cases h : u < 10
  · rw [dec_low u h]
    have : u = 0 ∨ u = 1 ∨ u = 2 ∨ u = 3 ∨ u = 4 ∨ u = 5 ∨ u = 6 ∨ u = 7 ∨ u = 8 ∨ u = 9 := by omega
    rcases this with rfl | rfl | rfl | rfl | rfl | rfl | rfl | rfl | rfl | rfl <;> rfl
  · rw [dec_two u (by omega) (by omega)]
    have : u = 10 ∨ u = 11 ∨ u = 12 ∨ u = 13 ∨ u = 14 ∨ u = 15 := by omega
    rcases this with rfl | rfl | rfl | rfl | rfl | rfl <;> rfl
theorem all16 {p : Nat → Bool} (h : (List.range 16).all p = true) (u : Nat) (hu : u < 16) : p u = true := List.all_eq_true.1 h u (List.mem_range.2 hu)
theorem num_dry (x : Int) (h0 : 0 ≤ x) (h1 : x < 16) : Dry (num x) := by
  rw [num_small x h0 h1]
  have h := all16 (p := fun u => (small16.getD u []).all fun c => c != 44) (by decide) x.toNat (by omega)
  intro c hc
  have := List.all_eq_true.1 h c hc
  simpa using this
theorem atoi_num (x : Int) (h0 : 0 ≤ x) (h1 : x < 16) : atoiAll (num x) = .ok x := by
  rw [num_small x h0 h1]
  have h := all16 (p := fun u => decide (atoiAll (small16.getD u []) = .ok (u : Int))) (by decide +kernel) x.toNat (by omega)
  have := of_decide_eq_true h
  rwa [Int.toNat_of_nonneg h0] at this
/-- What the model reads of a word. -/
def rdv : List UInt8 → Int → Int
  | [], n => n
  | c :: r, n => if c.toNat < 48 ∨ 57 < c.toNat then -1 else rdv r (10 * n + ((c.toNat : Int) - 48))
def rd (l : List UInt8) : Int := if l.length < 1 ∨ 6 < l.length ∨ (l.headD 0 = 48 ∧ 1 < l.length) then -1 else rdv l 0
theorem rd_num (x : Int) (h0 : 0 ≤ x) (h1 : x < 16) : rd (num x) = x := by
  rw [num_small x h0 h1]
  have h := all16 (p := fun u => decide (rd (small16.getD u []) = (u : Int))) (by decide +kernel) x.toNat (by omega)
  have := of_decide_eq_true h
  rwa [Int.toNat_of_nonneg h0] at this
theorem num_inj (x y : Int) (h0 : 0 ≤ x) (h1 : x < 16) (k0 : 0 ≤ y) (k1 : y < 16) (h : num x = num y) : x = y := by
  rw [← rd_num x h0 h1, h, rd_num y k0 k1]
theorem spl_txt (f : Nat → Int) (n : Nat) (hn : 0 < n) (hf : ∀ i, i < n → 0 ≤ f i ∧ f i < 16) : spl (txt f n) = (List.range n).map fun i => num (f i) := by
  induction n with
  | zero => omega
  | succ n ih =>
    have hd := num_dry (f n) (hf n (by omega)).1 (hf n (by omega)).2
    rw [List.range_succ, List.map_append]
    show spl (if n = 0 then num (f n) else txt f n ++ (44 :: num (f n))) = _
    by_cases h : n = 0
    · subst h
      rw [if_pos rfl, spl_dry _ hd]
      rfl
    · rw [if_neg h, spl_app, ih (by omega) fun i hi => hf i (by omega), spl_dry _ hd]
      rfl
/-- A text tells its numbers. -/
theorem txt_inj (f g : Nat → Int) (n m : Nat) (hn : 0 < n) (hm : 0 < m) (hf : ∀ i, i < n → 0 ≤ f i ∧ f i < 16) (hg : ∀ i, i < m → 0 ≤ g i ∧ g i < 16) (h : txt f n = txt g m) : n = m ∧ ∀ i, i < n → f i = g i := by
  have e := congrArg spl h
  rw [spl_txt f n hn hf, spl_txt g m hm hg] at e
  have hl := congrArg List.length e
  simp at hl
  subst hl
  refine ⟨rfl, fun i hi => ?_⟩
  have e2 := congrArg (fun L => L.getD i []) e
  simp [List.getD, hi] at e2
  exact num_inj _ _ (hf i hi).1 (hf i hi).2 (hg i hi).1 (hg i hi).2 e2
end Go.Proofs.YthklnfanbegecacDoor
