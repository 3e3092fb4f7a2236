/- Normal polynomials of the model: arithmetic, no program. -/
import Derived.Test.YtimpgbifnijkkaaKP
import Derived.Test.YtimpgbifnijkkaaKO
namespace Go.Proofs.Ytimpgbifnijkkaa
open Go.RowKit
set_option maxRecDepth 100000
/-- d ones. -/
def mny (q : Int) : Nat → Int
  | 0 => 0
  | k + 1 => addF q (mny q k) 1
theorem mny_el {q : Int} (h : isSz q = true) (k : Nat) : El q (mny q k) := by
  induction k with
  | zero => exact El.zero h
  | succ k ih => exact ih.add h (El.one h)
theorem mny_mod {q : Int} (h : isSz q = true) (d : Nat) (hd : d ≤ 16) : mny q d = (d : Int) % pr q := by
  have hk : ∀ q ∈ sizes, ∀ d ∈ List.range 17, mny q d = (d : Int) % pr q := by decide +kernel
  exact hk q (by simpa [isSz] using h) d (List.mem_range.2 (by omega))
theorem inv_mul {q a : Int} (h : isSz q = true) (ha : El q a) (h0 : a ≠ 0) : mulF q (invF q a) a = 1 := by
  have := of_decide_eq_true (of_chk1 (f := fun q a => decide (a = 0 ∨ mulF q (invF q a) a = 1)) (by decide +kernel) q a h ha.1 ha.2)
  rcases this with h1 | h1
  · exact absurd h1 h0
  · exact h1
theorem add_self_neg {q a : Int} (h : isSz q = true) (ha : El q a) : addF q a (subF q 0 a) = 0 :=
  of_decide_eq_true (of_chk1 (f := fun q a => decide (addF q a (subF q 0 a) = 0)) (by decide +kernel) q a h ha.1 ha.2)
theorem El.inv {q a : Int} (h : isSz q = true) (ha : El q a) : El q (invF q a) := El.pw h ha _
/-- A polynomial of a degree of at least 1, reduced. -/
structure Lead (m : Nat) (c : Nat → Int) (k : Nat) : Prop where
  el : ∀ i, El (m : Int) (c i)
  two : 2 ≤ k
  le : k ≤ m
  past : ∀ i, k ≤ i → c i = 0
  top : c (k - 1) ≠ 0
/-- With the value 0 at 0. -/
theorem nrm0 {m k : Nat} {c : Nat → Int} (h : isSz (m : Int) = true) (L : Lead m c k) :
    fl (redR m (pls m c (redR m (fun _ => subF m 0 (c 0)) 1)) m) (redn m (pls m c (redR m (fun _ => subF m 0 (c 0)) 1)) m) = fl (upd c 0 0) k := by
  have hx : El (m : Int) (subF m 0 (c 0)) := (L.el 0).neg h
  have h2 := L.two
  have hle := L.le
  have e1 : redR m (fun _ => subF m 0 (c 0)) 1 = one0 (subF m 0 (c 0)) := by
    funext j
    rw [redR_small m _ h (fun _ => hx) 1 (by omega)]
    unfold one0
    by_cases hj : j = 0
    · rw [if_pos hj, if_pos (by omega)]
    · rw [if_neg hj, if_neg (by omega)]
  rw [e1]
  have e2 : pls m c (one0 (subF m 0 (c 0))) = upd c 0 0 := by
    funext j
    unfold pls one0
    by_cases hj : j = 0
    · subst hj
      rw [if_pos rfl, upd_at, add_self_neg h (L.el 0)]
    · rw [if_neg hj, upd_ne _ _ _ _ hj, (add_zero' h (L.el j)).1]
  rw [plus_same h L.el (one0_el h hx) hle (show 1 ≤ m by omega) L.past (fun i hi => if_neg (by omega)), e2]
  have e3 : sn (upd c 0 0) (max k 1) = k := by
    rw [show max k 1 = (k - 1) + 1 by omega]
    show (if upd c 0 0 (k - 1) = 0 then sn (upd c 0 0) (k - 1) else k - 1 + 1) = k
    rw [upd_ne _ _ _ _ (by omega), if_neg L.top]
    omega
  rw [e3]
theorem val_sft {m : Nat} {b x : Int} (h : isSz (m : Int) = true) (hb : El (m : Int) b) (hx : El (m : Int) x) : val m (sft b) 2 x = addF m b x := by
  show addF m (addF m 0 (mulF m b 1)) (mulF m 1 (mulF m 1 x)) = addF m b x
  rw [(mul_one' h hb).2, (add_zero' h hb).2, (mul_one' h hx).1, (mul_one' h hx).1]
/-- A shift does not make it constant. -/
theorem shift_lead {m n : Nat} {g : Nat → Int} {b : Int} (h : isSz (m : Int) = true) (L : Lead m g n) (hb : El (m : Int) b) : Lead m (cmp m g n (sft b) 2 n).1 (cmp m g n (sft b) 2 n).2 := by
  have hq := isSz_le m h
  have ok := cmp_ok (n := n) (k := 2) h L.el (sft_el h hb) n
  have hv : ∀ x, El (m : Int) x → val m (cmp m g n (sft b) 2 n).1 m x = val m g m (addF m b x) := fun x hx => by
    rw [cmp_hor h L.el (sft_el h hb) hx, val_sft h hb hx, hor_val h (hb.add h hx) L.el, val_more h L.el (hb.add h hx) L.le L.past]
  generalize cmp m g n (sft b) 2 n = C at *
  have htwo : 2 ≤ C.2 := by
    refine Nat.le_of_not_lt fun hlt => L.top ?_
    have hc : C.1 = one0 (C.1 0) := by
      funext j
      unfold one0
      by_cases hj : j = 0
      · rw [if_pos hj, hj]
      · rw [if_neg hj]
        exact ok.past j (by omega)
    have hc0 := ok.el 0
    have hg : ∀ y, El (m : Int) y → C.1 0 = val m g m y := fun y hy => by
      have hx : El (m : Int) (addF m (subF m 0 b) y) := (hb.neg h).add h hy
      have e := hv _ hx
      rw [hc, one0_val h hc0 hx, ← add_assoc' h hb (hb.neg h) hy, add_self_neg h hb, (add_zero' h hy).2] at e
      exact e
    have h2 := L.two
    have hle := L.le
    have e1 := ipl_val (t := fun _ => C.1 0) h L.el (fun a ha => hg a (El.nat ha)) (n - 1) (by omega)
    have e2 := ipl_val (t := fun _ => C.1 0) h (one0_el h hc0) (fun a ha => (one0_val h hc0 (El.nat ha)).symm) (n - 1) (by omega)
    rw [← e1, e2]
    exact if_neg (by omega)
  refine ⟨ok.el, htwo, ok.le, ok.past, fun h0 => ?_⟩
  have ht := ok.tr
  obtain ⟨k, hk⟩ : ∃ k, C.2 = k + 1 := ⟨C.2 - 1, by omega⟩
  rw [hk] at ht h0
  simp only [Nat.add_sub_cancel] at h0
  have : sn C.1 (k + 1) = sn C.1 k := by
    show (if C.1 k = 0 then sn C.1 k else k + 1) = _
    rw [if_pos h0]
  have h3 := sn_le C.1 k
  omega
/-- With the coefficient 1. -/
theorem scale_lead {m n : Nat} {f : Nat → Int} (h : isSz (m : Int) = true) (L : Lead m f n) :
    Lead m (fun i => mulF m (invF m (f (n - 1))) (f i)) n ∧ redR m (fun i => mulF m (invF m (f (n - 1))) (f i)) n = (fun i => mulF m (invF m (f (n - 1))) (f i)) ∧ redn m (fun i => mulF m (invF m (f (n - 1))) (f i)) n = n := by
  have ha : El (m : Int) (invF m (f (n - 1))) := (L.el _).inv h
  have hel : ∀ i, El (m : Int) (mulF m (invF m (f (n - 1))) (f i)) := fun i => ha.mul h (L.el i)
  have htop : mulF m (invF m (f (n - 1))) (f (n - 1)) = 1 := inv_mul h (L.el _) L.top
  have hpast : ∀ i, n ≤ i → mulF m (invF m (f (n - 1))) (f i) = 0 := fun i hi => by rw [L.past i hi, (mul_zero' h ha).2]
  have h2 := L.two
  have hle := L.le
  have e1 : redR m (fun i => mulF m (invF m (f (n - 1))) (f i)) n = (fun i => mulF m (invF m (f (n - 1))) (f i)) := by
    funext j
    rw [redR_small m _ h hel n hle]
    by_cases hj : j < n
    · rw [if_pos hj]
    · rw [if_neg hj]
      exact (hpast j (by omega)).symm
  refine ⟨⟨hel, h2, hle, hpast, by simp only [htop]; decide⟩, e1, ?_⟩
  unfold redn
  rw [e1]
  have hs : ∀ k, n ≤ k → sn (fun i => mulF m (invF m (f (n - 1))) (f i)) k = n := by
    intro k hk
    induction k with
    | zero => omega
    | succ k ih =>
      show (if mulF m (invF m (f (n - 1))) (f k) = 0 then sn (fun i => mulF m (invF m (f (n - 1))) (f i)) k else k + 1) = n
      by_cases e : n = k + 1
      · subst e
        simp only [Nat.add_sub_cancel] at htop
        simp only [Nat.add_sub_cancel, htop]
        rw [if_neg (by decide)]
      · rw [hpast k (by omega), if_pos rfl, ih (by omega)]
  exact hs m hle
/-- The shift that takes the second coefficient away. -/
def nmlB (m n : Nat) (g : Nat → Int) : Int := mulF m (subF m 0 (g (n - 2))) (invF m (mny m (n - 1)))
theorem nmlB_el {m n : Nat} {g : Nat → Int} (h : isSz (m : Int) = true) (hg : ∀ i, El (m : Int) (g i)) : El (m : Int) (nmlB m n g) := ((hg _).neg h).mul h ((mny_el h _).inv h)
/-- The normal one but for its value at 0, of one with the coefficient 1. -/
def nmlS (m n : Nat) (g : Nat → Int) : Pol := if ((n - 1 : Nat) : Int) % pr m = 0 then (g, n) else cmp m g n (sft (nmlB m n g)) 2 n
theorem nmlS_lead {m n : Nat} {g : Nat → Int} (h : isSz (m : Int) = true) (L : Lead m g n) : Lead m (nmlS m n g).1 (nmlS m n g).2 := by
  unfold nmlS
  split
  · exact L
  · exact shift_lead h L (nmlB_el h L.el)
theorem shift_same {m n : Nat} {g : Nat → Int} {b : Int} (h : isSz (m : Int) = true) (L : Lead m g n) (hb : El (m : Int) b) :
    redR m (tms m (clm m (tabC m g n (sft b) 2))) m = (cmp m g n (sft b) 2 n).1 ∧ redn m (tms m (clm m (tabC m g n (sft b) 2))) m = (cmp m g n (sft b) 2 n).2 := by
  have ok := cmp_ok (n := n) (k := 2) h L.el (sft_el h hb) n
  obtain ⟨e1, e2⟩ := compose_same (n := n) (k := 2) h L.el (sft_el h hb)
  refine ⟨funext fun j => ?_, e2⟩
  have hT : ∀ i, El (m : Int) (tms m (clm m (tabC m g n (sft b) 2)) i) := tms_el h (clm_el h (tabC_el h L.el (sft_el h hb)))
  by_cases hj : j < (cmp m g n (sft b) 2 n).2
  · rw [e2] at e1
    have := congrArg (fun l => l.getD j 0) e1
    simp only [fl_get _ _ _ hj] at this
    exact this
  · rw [ok.past j (by omega)]
    exact redR_past h m j (by omega)
/-- The polynomial with the coefficient 1. -/
def mon1 (m n : Nat) (f : Nat → Int) : Nat → Int := fun i => mulF m (invF m (f (n - 1))) (f i)
/-- The normal polynomial, as a list. -/
def nml (m n : Nat) (f : Nat → Int) : List Int := fl (upd (nmlS m n (mon1 m n f)).1 0 0) (nmlS m n (mon1 m n f)).2
theorem nml_len {m n : Nat} {f : Nat → Int} (h : isSz (m : Int) = true) (L : Lead m f n) : (nml m n f).length ≤ m := by
  unfold nml
  rw [fl_len]
  exact (nmlS_lead h (scale_lead h L).1).le
end Go.Proofs.Ytimpgbifnijkkaa
