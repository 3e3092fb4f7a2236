/- Plain arithmetic of polynomials: lists told by functions, reduction, trailing zeros. No program here. -/
import Derived.Test.YthklnfanbegecacDoorQ
namespace Go.Proofs.YthklnfanbegecacDoor
set_option maxRecDepth 100000
/-- x is an element. -/
def El (q x : Int) : Prop := 0 ≤ x ∧ x < q
theorem El.add {q a b : Int} (h : isSz q = true) (ha : El q a) (hb : El q b) : El q (addF q a b) := addF_bd q a b h ha.1 ha.2 hb.1 hb.2
theorem El.mul {q a b : Int} (h : isSz q = true) (ha : El q a) (hb : El q b) : El q (mulF q a b) := mulF_bd q a b h ha.1 ha.2 hb.1 hb.2
theorem El.zero {q : Int} (h : isSz q = true) : El q 0 := by have := isSz_le q h; exact ⟨by omega, by omega⟩
theorem El.one {q : Int} (h : isSz q = true) : El q 1 := by have := isSz_le q h; exact ⟨by omega, by omega⟩
theorem El.pw {q a : Int} (h : isSz q = true) (ha : El q a) (n : Nat) : El q (pw q a n) := pw_bd q a h ha.1 ha.2 n
theorem add_comm' {q a b : Int} (h : isSz q = true) (ha : El q a) (hb : El q b) : addF q a b = addF q b a :=
  of_decide_eq_true (of_chk2 (f := fun q a b => decide (addF q a b = addF q b a)) (by decide +kernel) q a b h ha.1 ha.2 hb.1 hb.2)
theorem add_assoc' {q a b c : Int} (h : isSz q = true) (ha : El q a) (hb : El q b) (hc : El q c) : addF q (addF q a b) c = addF q a (addF q b c) :=
  of_decide_eq_true (of_chk3 (f := fun q a b c => decide (addF q (addF q a b) c = addF q a (addF q b c))) (by decide +kernel) q a b c h ha.1 ha.2 hb.1 hb.2 hc.1 hc.2)
theorem add_zero' {q a : Int} (h : isSz q = true) (ha : El q a) : addF q a 0 = a ∧ addF q 0 a = a :=
  of_decide_eq_true (of_chk1 (f := fun q a => decide (addF q a 0 = a ∧ addF q 0 a = a)) (by decide +kernel) q a h ha.1 ha.2)
theorem mul_add' {q a b c : Int} (h : isSz q = true) (ha : El q a) (hb : El q b) (hc : El q c) : mulF q a (addF q b c) = addF q (mulF q a b) (mulF q a c) :=
  of_decide_eq_true (of_chk3 (f := fun q a b c => decide (mulF q a (addF q b c) = addF q (mulF q a b) (mulF q a c))) (by decide +kernel) q a b c h ha.1 ha.2 hb.1 hb.2 hc.1 hc.2)
theorem mul_comm' {q a b : Int} (h : isSz q = true) (ha : El q a) (hb : El q b) : mulF q a b = mulF q b a := mulF_comm q a b h ha.1 ha.2 hb.1 hb.2
theorem add_swap {q a b c : Int} (h : isSz q = true) (ha : El q a) (hb : El q b) (hc : El q c) : addF q (addF q a b) c = addF q (addF q a c) b := by
  rw [add_assoc' h ha hb hc, add_comm' h hb hc, ← add_assoc' h ha hc hb]

/-! ### lists told by functions -/
/-- The list of f 0, .., f (n - 1). -/
def fl (f : Nat → Int) (n : Nat) : List Int := (List.range n).map f
theorem fl_len (f : Nat → Int) (n : Nat) : (fl f n).length = n := by simp [fl]
theorem fl_succ (f : Nat → Int) (n : Nat) : fl f (n + 1) = fl f n ++ [f n] := by simp [fl, List.range_succ]
theorem fl_get (f : Nat → Int) (n i : Nat) (h : i < n) : (fl f n).getD i 0 = f i := by simp [fl, List.getD, h]
theorem fl_congr {f g : Nat → Int} {n : Nat} (h : ∀ i, i < n → f i = g i) : fl f n = fl g n := by
  refine List.map_congr_left fun i hi => h i (List.mem_range.1 hi)
/-- f, but x at i. -/
def upd (f : Nat → Int) (i : Nat) (x : Int) : Nat → Int := fun j => if j = i then x else f j
theorem upd_at (f : Nat → Int) (i : Nat) (x : Int) : upd f i x i = x := by simp [upd]
theorem upd_ne (f : Nat → Int) (i j : Nat) (x : Int) (h : j ≠ i) : upd f i x j = f j := by simp [upd, h]
theorem fl_set (f : Nat → Int) (n i : Nat) (x : Int) : (fl f n).set i x = fl (upd f i x) n := by
  refine List.ext_getElem (by simp [fl]) fun j h1 h2 => ?_
  simp [fl, List.getElem_set, upd, eq_comm]
theorem fl_take (f : Nat → Int) (n m : Nat) (h : m ≤ n) : (fl f n).take m = fl f m := by
  simp [fl, ← List.map_take, List.take_range, Nat.min_eq_left h]
/-- Every list is told so. -/
theorem fl_of (l : List Int) : l = fl (fun i => l.getD i 0) l.length := by
  refine List.ext_getElem (by simp [fl]) fun j h1 h2 => ?_
  simp [fl, List.getD, h1]

/-! ### trailing zeros -/
/-- How many stay of n entries when zeros at the end go. -/
def sn (f : Nat → Int) : Nat → Nat
  | 0 => 0
  | n + 1 => if f n = 0 then sn f n else n + 1
theorem sn_le (f : Nat → Int) (n : Nat) : sn f n ≤ n := by
  induction n with
  | zero => exact Nat.le_refl _
  | succ n ih => simp only [sn]; split <;> omega
theorem sn_congr {f g : Nat → Int} {n : Nat} (h : ∀ i, i < n → f i = g i) : sn f n = sn g n := by
  induction n with
  | zero => rfl
  | succ n ih =>
    simp only [sn]
    rw [h n (Nat.lt_succ_self n), ih fun i hi => h i (by omega)]
theorem sn_zero (f : Nat → Int) (m d : Nat) (h : ∀ i, m ≤ i → i < m + d → f i = 0) : sn f (m + d) = sn f m := by
  induction d with
  | zero => rfl
  | succ d ih =>
    show sn f (m + d + 1) = _
    simp only [sn]
    rw [if_pos (h (m + d) (by omega) (by omega)), ih fun i h1 h2 => h i h1 (by omega)]

/-! ### reduction -/
/-- Where the power k lands. -/
def idx (q k : Nat) : Nat := if k = 0 then 0 else (k - 1) % (q - 1) + 1
theorem idx_lt (q k : Nat) (h : 2 ≤ q) : idx q k < q := by
  unfold idx
  split
  · omega
  · have := Nat.mod_lt (k - 1) (show 0 < q - 1 by omega)
    omega
theorem idx_small (q k : Nat) (h : k < q) : idx q k = k := by
  unfold idx
  split
  · omega
  · rw [Nat.mod_eq_of_lt (by omega)]; omega
theorem idx_step (q k : Nat) (h2 : 2 ≤ q) (h : q ≤ k) : idx q (k - (q - 1)) = idx q k := by
  unfold idx
  rw [if_neg (by omega), if_neg (by omega), show k - (q - 1) - 1 = k - 1 - (q - 1) from by omega, ← Nat.mod_eq_sub_mod (by omega)]
/-- The model's way: the first n terms, each added where it lands. -/
def redR (q : Nat) (c : Nat → Int) : Nat → Nat → Int
  | 0 => fun _ => 0
  | n + 1 => upd (redR q c n) (idx q n) (addF q (redR q c n (idx q n)) (c n))
theorem redR_el (q : Nat) (c : Nat → Int) (h : isSz q = true) (hc : ∀ i, El q (c i)) (n j : Nat) : El q (redR q c n j) := by
  induction n generalizing j with
  | zero => exact El.zero h
  | succ n ih =>
    simp only [redR, upd]
    split
    · exact (ih _).add h (hc n)
    · exact ih j
theorem redR_add (q : Nat) (c : Nat → Int) (h : isSz q = true) (hc : ∀ i, El q (c i)) (i : Nat) (x : Int) (hx : El q x) (n j : Nat) :
    redR q (upd c i (addF q (c i) x)) n j = if i < n ∧ j = idx q i then addF q (redR q c n j) x else redR q c n j := by
  induction n generalizing j with
  | zero => simp [redR]
  | succ n ih =>
    simp only [redR]
    by_cases e : n = i
    · subst e
      have ih' : ∀ j, redR q (upd c n (addF q (c n) x)) n j = redR q c n j := fun j => by rw [ih j, if_neg (by omega)]
      by_cases ej : j = idx q n
      · subst ej
        rw [upd_at, upd_at, upd_at, if_pos ⟨by omega, rfl⟩, ih', add_assoc' h (redR_el q c h hc _ _) (hc n) hx]
      · rw [upd_ne _ _ _ _ ej, upd_ne _ _ _ _ ej, if_neg (by omega), ih']
    · rw [upd_ne c i n _ e]
      by_cases ej : j = idx q n
      · subst ej
        rw [upd_at, upd_at, ih]
        by_cases hi : i < n ∧ idx q n = idx q i
        · rw [if_pos hi, if_pos ⟨by omega, hi.2⟩, add_swap h (redR_el q c h hc _ _) hx (hc n)]
        · rw [if_neg hi, if_neg (by omega)]
      · rw [upd_ne _ _ _ _ ej, upd_ne _ _ _ _ ej, ih]
        by_cases hi : i < n ∧ j = idx q i
        · rw [if_pos hi, if_pos ⟨by omega, hi.2⟩]
        · rw [if_neg hi, if_neg (by omega)]
/-- The program's way: from above, each term to the one q - 1 places below. -/
def redT (q : Nat) (c : Nat → Int) (n : Nat) : Nat → Nat → Int
  | 0 => c
  | s + 1 => upd (redT q c n s) (n - 1 - s - q + 1) (addF q (redT q c n s (n - 1 - s - q + 1)) (redT q c n s (n - 1 - s)))
theorem redT_el (q : Nat) (c : Nat → Int) (h : isSz q = true) (hc : ∀ i, El q (c i)) (n s j : Nat) : El q (redT q c n s j) := by
  induction s generalizing j with
  | zero => exact hc j
  | succ s ih =>
    simp only [redT, upd]
    split
    · exact (ih _).add h (ih _)
    · exact ih j
theorem red_same (q : Nat) (c : Nat → Int) (h : isSz q = true) (hc : ∀ i, El q (c i)) (n s : Nat) (hs : s + q ≤ n ∨ s = 0) (j : Nat) : redR q (redT q c n s) (n - s) j = redR q c n j := by
  have hq := isSz_le q h
  induction s generalizing j with
  | zero => rfl
  | succ s ih =>
    rw [← ih (by omega) j]
    have hn : n - s = (n - 1 - s) + 1 := by omega
    have hl : n - (s + 1) = n - 1 - s := by omega
    rw [hn, hl]
    simp only [redT]
    generalize hk : n - 1 - s = k at *
    have hkq : q ≤ k := by omega
    rw [redR_add q _ h (redT_el q c h hc n s) _ _ (redT_el q c h hc n s k)]
    have he : idx q (k - q + 1) = idx q k := by rw [← idx_step q k (by omega) hkq]; congr 1; omega
    rw [he]
    simp only [redR]
    by_cases ej : j = idx q k
    · subst ej
      rw [if_pos ⟨by omega, rfl⟩, upd_at]
    · rw [if_neg (by omega), upd_ne _ _ _ _ ej]
theorem redR_small (q : Nat) (c : Nat → Int) (h : isSz q = true) (hc : ∀ i, El q (c i)) (n : Nat) (hn : n ≤ q) (j : Nat) : redR q c n j = if j < n then c j else 0 := by
  induction n generalizing j with
  | zero => rfl
  | succ n ih =>
    have ih := fun j => ih (by omega) j
    simp only [redR]
    rw [idx_small q n (by omega)]
    by_cases ej : j = n
    · subst ej
      rw [upd_at, ih, if_neg (by omega), if_pos (by omega), (add_zero' h (hc j)).2]
    · rw [upd_ne _ _ _ _ ej, ih]
      by_cases hj : j < n
      · rw [if_pos hj, if_pos (by omega)]
      · rw [if_neg hj, if_neg (by omega)]
/-- The reduced polynomial of n terms. -/
def redn (q : Nat) (c : Nat → Int) (n : Nat) : Nat := sn (redR q c n) q
/-- What the program leaves in the first places is the model's. -/
theorem redT_last (q : Nat) (c : Nat → Int) (h : isSz q = true) (hc : ∀ i, El q (c i)) (n : Nat) :
    (∀ j, j < min n q → redT q c n (n - q) j = redR q c n j) ∧ sn (redT q c n (n - q)) (min n q) = redn q c n := by
  have h1 : ∀ j, j < min n q → redT q c n (n - q) j = redR q c n j := by
    intro j hj
    rw [← red_same q c h hc n (n - q) (by omega) j, redR_small q _ h (redT_el q c h hc n _) _ (by omega), if_pos (by omega)]
  refine ⟨h1, ?_⟩
  rw [sn_congr h1, redn]
  by_cases hq : q ≤ n
  · rw [Nat.min_eq_right hq]
  · have e : q = n + (q - n) := by omega
    rw [Nat.min_eq_left (by omega)]
    conv => rhs; rw [e]
    have hz := sn_zero (redR q c n) n (q - n) fun i h1 h2 => by rw [redR_small q c h hc n (by omega), if_neg (by omega)]
    rw [← e] at hz ⊢
    exact hz.symm
end Go.Proofs.YthklnfanbegecacDoor
