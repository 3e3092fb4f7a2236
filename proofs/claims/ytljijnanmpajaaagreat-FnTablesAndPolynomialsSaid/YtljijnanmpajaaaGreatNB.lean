/- Polynomials told by their tables (arithmetic alone): products, sums, multiples, powers of x, polynomials of powers; Dickson's values. -/
import Derived.Test.YtljijnanmpajaaaGreatKA
namespace Go.Proofs.YtljijnanmpajaaaGreat
/-- A reduced polynomial, and its table. -/
structure Tb (m : Nat) (f : Nat → Int) (n : Nat) (t : Nat → Int) : Prop where
  el : ∀ i, El (m : Int) (f i)
  le : n ≤ m
  past : ∀ i, n ≤ i → f i = 0
  tr : sn f n = n
  tab : ∀ a, a < m → val m f m (a : Int) = t a
/-- The polynomial with a table. -/
def ptl (m : Nat) (t : Nat → Int) : List Int := fl (ipl m t m) (sn (ipl m t m) m)
theorem Tb.same {m n : Nat} {f t : Nat → Int} (h : isSz (m : Int) = true) (p : Tb m f n t) : fl f n = ptl m t := by
  have hs : ∀ j, j < m → ipl m t m j = f j := fun j hj => ipl_val h p.el (fun a ha => (p.tab a ha).symm) j hj
  have e : sn (ipl m t m) m = n := by
    rw [sn_congr hs]
    have := sn_zero f n (m - n) fun i h1 _ => p.past i h1
    rw [show n + (m - n) = m by have := p.le; omega] at this
    rw [this, p.tr]
  unfold ptl
  rw [e]
  exact fl_congr fun i hi => (hs i (by have := p.le; omega)).symm
theorem Tb.num {m n : Nat} {f t : Nat → Int} (h : isSz (m : Int) = true) (p : Tb m f n t) : n = (ptl m t).length := by
  rw [← p.same h, fl_len]
theorem Tb.like {m n : Nat} {f t u : Nat → Int} (p : Tb m f n t) (e : ∀ a, a < m → t a = u a) : Tb m f n u :=
  ⟨p.el, p.le, p.past, p.tr, fun a ha => (p.tab a ha).trans (e a ha)⟩
theorem Tb.short {m n : Nat} {f t : Nat → Int} (h : isSz (m : Int) = true) (p : Tb m f n t) (a : Nat) (ha : a < m) : val m f n (a : Int) = t a := by
  rw [← p.tab a ha, val_more h p.el (El.nat ha) p.le p.past]
theorem Tb.tel {m n : Nat} {f t : Nat → Int} (h : isSz (m : Int) = true) (p : Tb m f n t) (a : Nat) (ha : a < m) : El (m : Int) (t a) := by
  rw [← p.tab a ha]
  exact val_el h p.el (El.nat ha) m
theorem tb_red {m : Nat} {c : Nat → Int} (h : isSz (m : Int) = true) (hc : ∀ i, El (m : Int) (c i)) (n : Nat) : Tb m (redR m c n) (redn m c n) (fun a => val m c n (a : Int)) :=
  ⟨fun _ => redR_el m _ h hc _ _, sn_le _ _, fun i hi => redR_past h _ i hi, sn_idem _ _, fun _ ha => val_red h hc (El.nat ha) n⟩
theorem tb_mul {m n k : Nat} {f g t u : Nat → Int} (h : isSz (m : Int) = true) (p : Tb m f n t) (r : Tb m g k u) :
    Tb m (redR m (cou m f g k n) (n + k)) (redn m (cou m f g k n) (n + k)) (fun a => mulF m (t a) (u a)) := by
  refine (tb_red h (cou_el h p.el r.el k n) (n + k)).like fun a ha => ?_
  show val m (cou m f g k n) (n + k) (a : Int) = _
  rw [val_cou h p.el r.el (El.nat ha) (Nat.le_refl _), p.short h a ha, r.short h a ha]
theorem tb_pls {m n k : Nat} {f g t u : Nat → Int} (h : isSz (m : Int) = true) (p : Tb m f n t) (r : Tb m g k u) :
    Tb m (pls m f g) (sn (pls m f g) (max n k)) (fun a => addF m (t a) (u a)) := by
  refine ⟨pls_el h p.el r.el, ?_, fun i hi => ?_, sn_idem _ _, fun a ha => ?_⟩
  · have h1 := sn_le (pls m f g) (max n k)
    have h2 := p.le
    have h3 := r.le
    omega
  · by_cases hi' : i < max n k
    · exact sn_past hi hi'
    · exact pls_past h p.past r.past (by omega)
  · rw [val_pls h p.el r.el (El.nat ha), p.tab a ha, r.tab a ha]
theorem tb_plsR {m n k : Nat} {f g t u : Nat → Int} (h : isSz (m : Int) = true) (p : Tb m f n t) (r : Tb m g k u) :
    Tb m (redR m (pls m f g) m) (redn m (pls m f g) m) (fun a => addF m (t a) (u a)) := by
  refine (tb_red h (pls_el h p.el r.el) m).like fun a ha => ?_
  show val m (pls m f g) m (a : Int) = _
  rw [val_pls h p.el r.el (El.nat ha), p.tab a ha, r.tab a ha]
theorem tb_scl {m n : Nat} {x : Int} {f t : Nat → Int} (h : isSz (m : Int) = true) (p : Tb m f n t) (hx : El (m : Int) x) :
    Tb m (redR m (fun i => mulF m x (f i)) n) (redn m (fun i => mulF m x (f i)) n) (fun a => mulF m x (t a)) := by
  refine (tb_red h (fun i => hx.mul h (p.el i)) n).like fun a ha => ?_
  show val m (fun i => mulF m x (f i)) n (a : Int) = _
  rw [← p.short h a ha]
  unfold val
  rw [← lsum_mul h hx fun i _ => (p.el i).mul h (El.pw h (El.nat ha) i)]
  exact lsum_congr fun i _ => mul_assoc' h hx (p.el i) (El.pw h (El.nat ha) i)
/-- Coefficients moved up a power. -/
def shf (f : Nat → Int) : Nat → Int := fun i => if i = 0 then 0 else f (i - 1)
theorem shf_el {q : Int} {f : Nat → Int} (h : isSz q = true) (hf : ∀ i, El q (f i)) (i : Nat) : El q (shf f i) := by
  unfold shf
  split
  · exact El.zero h
  · exact hf _
theorem tb_shf {m n : Nat} {f t : Nat → Int} (h : isSz (m : Int) = true) (p : Tb m f n t) :
    Tb m (redR m (shf f) (n + 1)) (redn m (shf f) (n + 1)) (fun a => mulF m (a : Int) (t a)) := by
  have hs := shf_el h p.el
  refine (tb_red h hs (n + 1)).like fun a ha => ?_
  have hA : El (m : Int) (a : Int) := El.nat ha
  have hz : shf f 0 = 0 := if_pos rfl
  show val m (shf f) (n + 1) (a : Int) = _
  rw [← p.short h a ha]
  unfold val
  rw [lsum_front h fun i _ => (hs i).mul h (El.pw h hA i), hz, (mul_zero' h (El.pw h hA 0)).1, (add_zero' h (lsum_el h fun i _ => (hs (i + 1)).mul h (El.pw h hA (i + 1)))).2, ← lsum_mul h hA fun i _ => (p.el i).mul h (El.pw h hA i)]
  refine lsum_congr fun i _ => ?_
  have hsi : shf f (i + 1) = f i := by
    unfold shf
    rw [if_neg (by omega), Nat.add_sub_cancel]
  have e1 := pw_add m a h hA.1 hA.2 1 i
  rw [show pw m a 1 = a from (mul_one' h hA).1, show 1 + i = i + 1 by omega] at e1
  rw [hsi, ← e1, ← mul_assoc' h (p.el i) hA (El.pw h hA i), mul_comm' h (p.el i) hA, mul_assoc' h hA (p.el i) (El.pw h hA i)]
/-- The coefficients of a power of x. -/
def unt (n : Nat) : Nat → Int := fun i => if i = n then 1 else 0
theorem unt_el {q : Int} (h : isSz q = true) (n i : Nat) : El q (unt n i) := by
  unfold unt
  split
  · exact El.one h
  · exact El.zero h
theorem unt_val {m n N : Nat} (h : isSz (m : Int) = true) (hn : n < N) {x : Int} (hx : El (m : Int) x) : val m (unt n) N x = pw m x n := by
  unfold val
  rw [lsum_pick h (j := n) ((unt_el h n n).mul h (El.pw h hx n)) hn fun i _ hne => by rw [show unt n i = 0 from if_neg hne, (mul_zero' h (El.pw h hx i)).1]]
  rw [show unt n n = 1 from if_pos rfl, (mul_one' h (El.pw h hx n)).1]
theorem tb_untR {m : Nat} (h : isSz (m : Int) = true) (n : Nat) : Tb m (redR m (unt n) (n + 1)) (redn m (unt n) (n + 1)) (fun a => pw m (a : Int) n) :=
  (tb_red h (unt_el h n) (n + 1)).like fun _ ha => unt_val h (Nat.lt_succ_self n) (El.nat ha)
theorem tb_unt {m : Nat} (h : isSz (m : Int) = true) (n : Nat) : Tb m (unt (idx m n)) (idx m n + 1) (fun a => pw m (a : Int) n) := by
  have hq := isSz_le m h
  have hi := idx_lt m n (by omega)
  refine ⟨unt_el h _, hi, fun i hi => if_neg (by omega), ?_, fun a ha => ?_⟩
  · rw [sn, if_neg]
    rw [show unt (idx m n) (idx m n) = 1 from if_pos rfl]
    decide
  · rw [unt_val h hi (El.nat ha), pw_idx h (El.nat ha)]
theorem pw_one {q x : Int} (h : isSz q = true) (hx : El q x) : pw q x 1 = x := (mul_one' h hx).1
theorem tb_x {m : Nat} (h : isSz (m : Int) = true) : Tb m (redR m (unt 1) 2) (redn m (unt 1) 2) (fun a => (a : Int)) :=
  (tb_untR h 1).like fun _ ha => pw_one h (El.nat ha)
theorem one0_val' {m n : Nat} {x a : Int} (h : isSz (m : Int) = true) (ha : El m a) (hx : El m x) (hn : 0 < n) : val m (one0 a) n x = a := by
  unfold val
  rw [lsum_pick h (j := 0) ((one0_el h ha 0).mul h (El.pw h hx 0)) hn fun i _ hne => by rw [show one0 a i = 0 from if_neg hne, (mul_zero' h (El.pw h hx i)).1]]
  rw [show one0 a 0 = a from if_pos rfl]
  exact (mul_one' h ha).2
theorem tb_con {m : Nat} {x : Int} (h : isSz (m : Int) = true) (hx : El (m : Int) x) : Tb m (one0 x) (sn (one0 x) 1) (fun _ => x) := by
  have hq := isSz_le m h
  refine ⟨one0_el h hx, ?_, fun i hi => ?_, sn_idem _ _, fun a ha => one0_val' h hx (El.nat ha) (by omega)⟩
  · have := sn_le (one0 x) 1
    omega
  · by_cases hi' : i < 1
    · exact sn_past hi hi'
    · exact if_neg (by omega)
theorem tb_conR {m : Nat} {x : Int} (h : isSz (m : Int) = true) (hx : El (m : Int) x) : Tb m (redR m (one0 x) 1) (redn m (one0 x) 1) (fun _ => x) :=
  (tb_red h (one0_el h hx) 1).like fun _ ha => one0_val' h hx (El.nat ha) Nat.one_pos
/-- The terms of x^r times a polynomial at x^s, k of them. -/
def ixT (r s : Nat) (f : Nat → Int) : Nat → (Nat → Int)
  | 0 => fun _ => 0
  | k + 1 => upd (ixT r s f k) (r + s * k) (f k)
theorem ixT_el {q : Int} {r s : Nat} {f : Nat → Int} (h : isSz q = true) (hf : ∀ i, El q (f i)) (k i : Nat) : El q (ixT r s f k i) := by
  induction k generalizing i with
  | zero => exact El.zero h
  | succ k ih =>
    by_cases e : i = r + s * k
    · subst e
      rw [ixT, upd_at]
      exact hf k
    · rw [ixT, upd_ne _ _ _ _ e]
      exact ih i
theorem ixT_none {r s : Nat} {f : Nat → Int} (hs : 1 ≤ s) (k i : Nat) (hi : r + s * k ≤ i) : ixT r s f k i = 0 := by
  induction k with
  | zero => rfl
  | succ k ih =>
    have e : s * (k + 1) = s * k + s := Nat.mul_succ s k
    rw [ixT, upd_ne _ _ _ _ (by omega)]
    exact ih (by omega)
theorem pw_two {q x : Int} (h : isSz q = true) (hx : El q x) (r s k : Nat) : pw q x (r + s * k) = mulF q (pw q x r) (pw q (pw q x s) k) := by
  rw [pw_pw q x h hx.1 hx.2, pw_add q x h hx.1 hx.2]
theorem ixT_val {m r s : Nat} {x : Int} {f : Nat → Int} (h : isSz (m : Int) = true) (hs : 1 ≤ s) (hf : ∀ i, El m (f i)) (hx : El m x) (N k : Nat) (hN : r + s * k ≤ N) :
    val m (ixT r s f k) N x = mulF m (pw m x r) (val m f k (pw m x s)) := by
  induction k with
  | zero =>
    rw [show val m f 0 (pw m x s) = 0 from rfl, (mul_zero' h (El.pw h hx r)).2]
    exact val_none h hx fun _ _ => rfl
  | succ k ih =>
    have e : s * (k + 1) = s * k + s := Nat.mul_succ s k
    have hps := El.pw h hx s
    have hz : ixT r s f k (r + s * k) = 0 := ixT_none hs k _ (Nat.le_refl _)
    have hu := val_upd h (fun i => ixT_el (r := r) (s := s) h hf k i) hx (hf k) (show r + s * k < N by omega)
    rw [hz, (add_zero' h (hf k)).2, ih (by omega)] at hu
    rw [ixT, hu, pw_two h hx, show val m f (k + 1) (pw m x s) = addF m (val m f k (pw m x s)) (mulF m (f k) (pw m (pw m x s) k)) from rfl,
      mul_add' h (El.pw h hx r) (val_el h hf hps k) ((hf k).mul h (El.pw h hps k)), ← mul_assoc' h (hf k) (El.pw h hx r) (El.pw h hps k), mul_comm' h (hf k) (El.pw h hx r),
      mul_assoc' h (El.pw h hx r) (hf k) (El.pw h hps k)]
theorem tb_ix {m r s n : Nat} {f : Nat → Int} (h : isSz (m : Int) = true) (hs : 1 ≤ s) (hf : ∀ i, El m (f i)) :
    Tb m (redR m (ixT r s f n) (r + s * n)) (redn m (ixT r s f n) (r + s * n)) (fun a => mulF m (pw m (a : Int) r) (val m f n (pw m (a : Int) s))) :=
  (tb_red h (fun i => ixT_el h hf n i) (r + s * n)).like fun _ ha => ixT_val h hs hf (El.nat ha) _ n (Nat.le_refl _)
/-- The value of D(n) at x. -/
def dkv (m : Nat) (a : Int) : Nat → Int → Int
  | 0, _ => addF m 1 1
  | 1, x => x
  | n + 2, x => addF m (mulF m x (dkv m a (n + 1) x)) (mulF m (subF m 0 a) (dkv m a n x))
theorem dkv_el {m : Nat} {a x : Int} (h : isSz (m : Int) = true) (ha : El (m : Int) a) (hx : El (m : Int) x) (n : Nat) : El (m : Int) (dkv m a n x) ∧ El (m : Int) (dkv m a (n + 1) x) := by
  induction n with
  | zero => exact ⟨(El.one h).add h (El.one h), hx⟩
  | succ n ih => exact ⟨ih.2, (hx.mul h ih.2).add h ((El.neg h ha).mul h ih.1)⟩
/-- The table of D(n). -/
def dkt (m : Nat) (a : Int) (n : Nat) : Nat → Int := fun x => dkv m a n (x : Int)
theorem dkt_el {m : Nat} {a : Int} (h : isSz (m : Int) = true) (ha : El (m : Int) a) (n x : Nat) (hx : x < m) : El (m : Int) (dkt m a n x) := (dkv_el h ha (El.nat hx) n).1
end Go.Proofs.YtljijnanmpajaaaGreat
