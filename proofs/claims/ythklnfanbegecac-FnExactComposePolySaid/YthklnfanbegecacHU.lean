/- Sums, tables of values and interpolation, by numbers. No program here. -/
import Derived.Test.YthklnfanbegecacHT
namespace Go.Proofs.Ythklnfanbegecac
set_option maxRecDepth 100000
theorem mul_assoc' {q a b c : Int} (h : isSz q = true) (ha : El q a) (hb : El q b) (hc : El q c) : mulF q (mulF q a b) c = mulF q a (mulF q b c) := mulF_assoc q a b c h ha.1 ha.2 hb.1 hb.2 hc.1 hc.2
theorem mul_one' {q a : Int} (h : isSz q = true) (ha : El q a) : mulF q 1 a = a ∧ mulF q a 1 = a := ⟨(mulF_one q a h ha.1 ha.2).1, (mulF_one q a h ha.1 ha.2).2.1⟩
theorem El.neg {q a : Int} (h : isSz q = true) (ha : El q a) : El q (subF q 0 a) := subF_bd q 0 a h (Int.le_refl _) (El.zero h).2 ha.1 ha.2
theorem neg_add' {q a b : Int} (h : isSz q = true) (ha : El q a) (hb : El q b) : subF q 0 (addF q a b) = addF q (subF q 0 a) (subF q 0 b) :=
  of_decide_eq_true (of_chk2 (f := fun q a b => decide (subF q 0 (addF q a b) = addF q (subF q 0 a) (subF q 0 b))) (by decide +kernel) q a b h ha.1 ha.2 hb.1 hb.2)
theorem neg_mul' {q a b : Int} (h : isSz q = true) (ha : El q a) (hb : El q b) : mulF q a (subF q 0 b) = subF q 0 (mulF q a b) :=
  of_decide_eq_true (of_chk2 (f := fun q a b => decide (mulF q a (subF q 0 b) = subF q 0 (mulF q a b))) (by decide +kernel) q a b h ha.1 ha.2 hb.1 hb.2)
theorem neg_zero' {q : Int} (h : isSz q = true) : subF q 0 0 = 0 :=
  of_decide_eq_true (of_chk1 (f := fun q _ => decide (subF q 0 0 = 0)) (by decide +kernel) q 0 h (Int.le_refl _) (El.zero h).2)
/-- u 0 + .. + u (n - 1). -/
def lsum (q : Int) (u : Nat → Int) : Nat → Int
  | 0 => 0
  | n + 1 => addF q (lsum q u n) (u n)
theorem lsum_el {q : Int} {u : Nat → Int} (h : isSz q = true) {n : Nat} (hu : ∀ i, i < n → El q (u i)) : El q (lsum q u n) := by
  induction n with
  | zero => exact El.zero h
  | succ n ih => exact (ih fun i hi => hu i (by omega)).add h (hu n (by omega))
theorem lsum_congr {q : Int} {u v : Nat → Int} {n : Nat} (h : ∀ i, i < n → u i = v i) : lsum q u n = lsum q v n := by
  induction n with
  | zero => rfl
  | succ n ih => simp only [lsum]; rw [ih fun i hi => h i (by omega), h n (Nat.lt_succ_self n)]
theorem lsum_add {q : Int} {u v : Nat → Int} (h : isSz q = true) {n : Nat} (hu : ∀ i, i < n → El q (u i)) (hv : ∀ i, i < n → El q (v i)) : lsum q (fun i => addF q (u i) (v i)) n = addF q (lsum q u n) (lsum q v n) := by
  induction n with
  | zero => exact (add_zero' h (El.zero h)).1.symm
  | succ n ih =>
    have hu' : ∀ i, i < n → El q (u i) := fun i hi => hu i (by omega)
    have hv' : ∀ i, i < n → El q (v i) := fun i hi => hv i (by omega)
    have U := lsum_el h hu'
    have V := lsum_el h hv'
    have un := hu n (Nat.lt_succ_self n)
    have vn := hv n (Nat.lt_succ_self n)
    simp only [lsum]
    rw [ih hu' hv', ← add_assoc' h (U.add h V) un vn, add_swap h U V un, add_assoc' h (U.add h un) V vn]
theorem lsum_mul {q x : Int} {u : Nat → Int} (h : isSz q = true) (hx : El q x) {n : Nat} (hu : ∀ i, i < n → El q (u i)) : lsum q (fun i => mulF q x (u i)) n = mulF q x (lsum q u n) := by
  induction n with
  | zero => exact (mul_zero' h hx).2.symm
  | succ n ih =>
    have hu' : ∀ i, i < n → El q (u i) := fun i hi => hu i (by omega)
    simp only [lsum]
    rw [ih hu', ← mul_add' h hx (lsum_el h hu') (hu n (Nat.lt_succ_self n))]
theorem lsum_mulr {q x : Int} {u : Nat → Int} (h : isSz q = true) (hx : El q x) {n : Nat} (hu : ∀ i, i < n → El q (u i)) : lsum q (fun i => mulF q (u i) x) n = mulF q (lsum q u n) x := by
  rw [mul_comm' h (lsum_el h hu) hx, ← lsum_mul h hx hu]
  exact lsum_congr fun i hi => mul_comm' h (hu i hi) hx
theorem lsum_neg {q : Int} {u : Nat → Int} (h : isSz q = true) {n : Nat} (hu : ∀ i, i < n → El q (u i)) : lsum q (fun i => subF q 0 (u i)) n = subF q 0 (lsum q u n) := by
  induction n with
  | zero => exact (neg_zero' h).symm
  | succ n ih =>
    have hu' : ∀ i, i < n → El q (u i) := fun i hi => hu i (by omega)
    simp only [lsum]
    rw [ih hu', ← neg_add' h (lsum_el h hu') (hu n (Nat.lt_succ_self n))]
theorem lsum_zero {q : Int} {u : Nat → Int} (h : isSz q = true) {n : Nat} (hu : ∀ i, i < n → u i = 0) : lsum q u n = 0 := by
  induction n with
  | zero => rfl
  | succ n ih => simp only [lsum]; rw [ih fun i hi => hu i (by omega), hu n (Nat.lt_succ_self n), (add_zero' h (El.zero h)).1]
theorem lsum_swap {q : Int} {u : Nat → Nat → Int} (h : isSz q = true) {n m : Nat} (hu : ∀ i k, i < n → k < m → El q (u i k)) : lsum q (fun i => lsum q (fun k => u i k) m) n = lsum q (fun k => lsum q (fun i => u i k) n) m := by
  induction n with
  | zero => exact (lsum_zero h fun _ _ => rfl).symm
  | succ n ih =>
    simp only [lsum]
    rw [ih fun i k hi hk => hu i k (by omega) hk, ← lsum_add h (fun k hk => lsum_el h fun i hi => hu i k (by omega) hk) (fun k hk => hu n k (Nat.lt_succ_self n) hk)]
theorem lsum_front {q : Int} {u : Nat → Int} (h : isSz q = true) {n : Nat} (hu : ∀ i, i < n + 1 → El q (u i)) : lsum q u (n + 1) = addF q (u 0) (lsum q (fun i => u (i + 1)) n) := by
  induction n with
  | zero =>
    show addF q 0 (u 0) = addF q (u 0) 0
    rw [(add_zero' h (hu 0 (by omega))).1, (add_zero' h (hu 0 (by omega))).2]
  | succ n ih =>
    show addF q (lsum q u (n + 1)) (u (n + 1)) = addF q (u 0) (addF q (lsum q (fun i => u (i + 1)) n) (u (n + 1)))
    rw [ih fun i hi => hu i (by omega), add_assoc' h (hu 0 (by omega)) (lsum_el h fun i hi => hu (i + 1) (by omega)) (hu _ (by omega))]
theorem lsum_pick {q : Int} {u : Nat → Int} (h : isSz q = true) {n j : Nat} (hu : El q (u j)) (hj : j < n) (hz : ∀ i, i < n → i ≠ j → u i = 0) : lsum q u n = u j := by
  induction n with
  | zero => omega
  | succ n ih =>
    simp only [lsum]
    by_cases e : j = n
    · subst e
      rw [lsum_zero h fun i hi => hz i (by omega) (by omega), (add_zero' h hu).2]
    · rw [ih (by omega) fun i hi => hz i (by omega), hz n (Nat.lt_succ_self n) (by omega), (add_zero' h hu).1]
/-- The coefficient of x^j in the polynomial that is 1 at a and 0 elsewhere. -/
def cf (q : Int) (a : Int) (j : Nat) : Int := if j = 0 then addF q 1 (subF q 0 (pw q a (q.toNat - 1 - j))) else subF q 0 (pw q a (q.toNat - 1 - j))
theorem cf_el {q a : Int} (h : isSz q = true) (ha : El q a) (j : Nat) : El q (cf q a j) := by
  unfold cf
  split
  · exact (El.one h).add h (El.neg h (El.pw h ha _))
  · exact El.neg h (El.pw h ha _)
theorem cf_sum {q j k : Int} (h : isSz q = true) (hj : El q j) (hk : El q k) : lsum q (fun a => mulF q (pw q (a : Int) k.toNat) (cf q (a : Int) j.toNat)) q.toNat = if k = j then 1 else 0 :=
  of_decide_eq_true (of_chk2 (f := fun q j k => decide (lsum q (fun a => mulF q (pw q (a : Int) k.toNat) (cf q (a : Int) j.toNat)) q.toNat = if k = j then 1 else 0)) (by decide +kernel) q j k h hj.1 hj.2 hk.1 hk.2)
theorem cf_zero {q a : Int} (h : isSz q = true) (ha : El q a) : cf q a 0 = if a = 0 then 1 else 0 :=
  of_decide_eq_true (of_chk1 (f := fun q a => decide (cf q a 0 = if a = 0 then 1 else 0)) (by decide +kernel) q a h ha.1 ha.2)
theorem El.nat {m i : Nat} (h : i < m) : El (m : Int) (i : Int) := ⟨by omega, by omega⟩
/-- The model's interpolation of the first n values. -/
def ipl (m : Nat) (t : Nat → Int) (n j : Nat) : Int := lsum m (fun a => mulF m (t a) (cf m (a : Int) j)) n
theorem ipl_el {m : Nat} {t : Nat → Int} (h : isSz (m : Int) = true) (ht : ∀ i, El m (t i)) (n j : Nat) (hn : n ≤ m) : El m (ipl m t n j) := lsum_el h fun i hi => (ht i).mul h (cf_el h (El.nat (by omega)) j)
/-- The program's products of the values and powers of the elements. -/
def psl (m : Nat) (t : Nat → Int) : Nat → Nat → Int
  | 0 => t
  | s + 1 => fun a => mulF m (psl m t s a) (a : Int)
theorem psl_eq {m : Nat} {t : Nat → Int} (h : isSz (m : Int) = true) (ht : ∀ i, El m (t i)) (s a : Nat) (ha : a < m) : psl m t s a = mulF m (t a) (pw m (a : Int) s) := by
  induction s with
  | zero => exact (mul_one' h (ht a)).2.symm
  | succ s ih =>
    show mulF m (psl m t s a) (a : Int) = mulF m (t a) (mulF m (pw m (a : Int) s) (a : Int))
    rw [ih, mul_assoc' h (ht a) (El.pw h (El.nat ha) s) (El.nat ha)]
theorem psl_el {m : Nat} {t : Nat → Int} (h : isSz (m : Int) = true) (ht : ∀ i, El m (t i)) (s a : Nat) (ha : a < m) : El m (psl m t s a) := by
  rw [psl_eq h ht s a ha]
  exact (ht a).mul h (El.pw h (El.nat ha) s)
/-- The program's terms. -/
def tms (m : Nat) (t : Nat → Int) (j : Nat) : Int := if j = 0 then t 0 else subF m 0 (lsum m (psl m t (m - 1 - j)) m)
theorem tms_same {m : Nat} {t : Nat → Int} (h : isSz (m : Int) = true) (ht : ∀ i, El m (t i)) (j : Nat) : tms m t j = ipl m t m j := by
  have hq := isSz_le m h
  unfold tms ipl
  by_cases hj : j = 0
  · subst hj
    have hp : ∀ a, a < m → mulF m (t a) (cf m (a : Int) 0) = if a = 0 then t a else 0 := fun a ha => by
      rw [cf_zero h (El.nat ha)]
      by_cases e : a = 0
      · subst e
        simp [(mul_one' h (ht 0)).2]
      · rw [if_neg (by omega), if_neg e, (mul_zero' h (ht a)).2]
    rw [if_pos rfl, lsum_congr hp]
    refine (lsum_pick (u := fun a => if a = 0 then t a else 0) (j := 0) h ?_ (by omega) fun i _ hi => if_neg hi).symm
    exact ht 0
  · rw [if_neg hj, ← lsum_neg h fun i hi => psl_el h ht _ i hi]
    refine lsum_congr fun a ha => ?_
    rw [psl_eq h ht _ a ha, ← neg_mul' h (ht a) (El.pw h (El.nat ha) _)]
    unfold cf
    rw [if_neg hj, Int.toNat_natCast]
/-! ### values -/
/-- The value of the first n terms at x. -/
def val (q : Int) (f : Nat → Int) (n : Nat) (x : Int) : Int := lsum q (fun i => mulF q (f i) (pw q x i)) n
theorem val_el {q x : Int} {f : Nat → Int} (h : isSz q = true) (hf : ∀ i, El q (f i)) (hx : El q x) (n : Nat) : El q (val q f n x) := lsum_el h fun i _ => (hf i).mul h (El.pw h hx i)
/-- A reduced polynomial is that of its table. -/
theorem ipl_val {m : Nat} {r : Nat → Int} (h : isSz (m : Int) = true) (hr : ∀ i, El m (r i)) {t : Nat → Int} (ht : ∀ a, a < m → t a = val m r m (a : Int)) (j : Nat) (hj : j < m) : ipl m t m j = r j := by
  have hT : ∀ a k, a < m → k < m → El m (mulF m (mulF m (r k) (pw m (a : Int) k)) (cf m (a : Int) j)) := fun a k ha _ => (((hr k).mul h (El.pw h (El.nat ha) k)).mul h (cf_el h (El.nat ha) j))
  have e1 : ipl m t m j = lsum m (fun a => lsum m (fun k => mulF m (mulF m (r k) (pw m (a : Int) k)) (cf m (a : Int) j)) m) m := by
    unfold ipl
    refine lsum_congr fun a ha => ?_
    rw [ht a ha]
    exact (lsum_mulr h (cf_el h (El.nat ha) j) fun k _ => (hr k).mul h (El.pw h (El.nat ha) k)).symm
  rw [e1, lsum_swap h hT]
  have e2 : ∀ k, k < m → lsum m (fun a => mulF m (mulF m (r k) (pw m (a : Int) k)) (cf m (a : Int) j)) m = if k = j then r k else 0 := fun k hk => by
    have e3 := cf_sum h (El.nat hj) (El.nat hk)
    simp only [Int.toNat_natCast] at e3
    rw [lsum_congr (v := fun a => mulF m (r k) (mulF m (pw m (a : Int) k) (cf m (a : Int) j))) fun a ha => mul_assoc' h (hr k) (El.pw h (El.nat ha) k) (cf_el h (El.nat ha) j),
      lsum_mul h (hr k) fun a ha => (El.pw h (El.nat ha) k).mul h (cf_el h (El.nat ha) j), e3]
    by_cases e : k = j
    · subst e
      rw [if_pos rfl, if_pos rfl, (mul_one' h (hr k)).2]
    · rw [if_neg (by omega), if_neg e, (mul_zero' h (hr k)).2]
  rw [lsum_congr e2]
  have := lsum_pick (q := m) (u := fun k => if k = j then r k else 0) (n := m) (j := j) h (by simp; exact hr j) hj fun i _ hi => if_neg hi
  rw [this, if_pos rfl]
/-- What the program makes of the table of a reduced polynomial is that polynomial. -/
theorem back_same {m l : Nat} {r t : Nat → Int} (h : isSz (m : Int) = true) (hr : ∀ i, El m (r i)) (ht : ∀ i, El m (t i)) (hv : ∀ a, a < m → t a = val m r m (a : Int)) (hl : l ≤ m) (hz : ∀ i, l ≤ i → r i = 0) (hs : sn r l = l) :
    fl (redR m (tms m t) m) (redn m (tms m t) m) = fl r l ∧ redn m (tms m t) m = l := by
  have hT : ∀ i, El m (tms m t i) := fun i => by rw [tms_same h ht]; exact ipl_el h ht m i (Nat.le_refl _)
  have hs' : ∀ j, j < m → redR m (tms m t) m j = r j := fun j hj => by
    rw [redR_small m _ h hT m (Nat.le_refl _), if_pos hj, tms_same h ht, ipl_val h hr hv j hj]
  have e : redn m (tms m t) m = l := by
    unfold redn
    rw [sn_congr hs']
    have := sn_zero r l (m - l) fun i h1 _ => hz i h1
    rw [show l + (m - l) = m by omega] at this
    rw [this, hs]
  rw [e]
  exact ⟨fl_congr fun i hi => hs' i (by omega), rfl⟩
theorem pw_top {q x : Int} (h : isSz q = true) (hx : El q x) : pw q x q.toNat = x :=
  of_decide_eq_true (of_chk1 (f := fun q x => decide (pw q x q.toNat = x)) (by decide +kernel) q x h hx.1 hx.2)
theorem pw_down {m : Nat} {x : Int} (h : isSz (m : Int) = true) (hx : El m x) (n : Nat) (hn : m ≤ n) : pw m x (n - (m - 1)) = pw m x n := by
  have hq := isSz_le m h
  have e := pw_top h hx
  rw [Int.toNat_natCast] at e
  have e1 := pw_add m x h hx.1 hx.2 m (n - m)
  have e2 := pw_add m x h hx.1 hx.2 1 (n - m)
  rw [e, show m + (n - m) = n by omega] at e1
  rw [show pw m x 1 = x from (mul_one' h hx).1, show 1 + (n - m) = n - (m - 1) by omega] at e2
  rw [← e1, ← e2]
theorem pw_idx {m : Nat} {x : Int} (h : isSz (m : Int) = true) (hx : El m x) (n : Nat) : pw m x (idx m n) = pw m x n := by
  have hq := isSz_le m h
  induction n using Nat.strongRecOn with
  | ind n ih =>
    by_cases hn : m ≤ n
    · rw [← idx_step m n (by omega) hn, ih (n - (m - 1)) (by omega), pw_down h hx n hn]
    · rw [idx_small m n (by omega)]
theorem val_upd {q x y : Int} {c : Nat → Int} (h : isSz q = true) (hc : ∀ i, El q (c i)) (hx : El q x) (hy : El q y) {i n : Nat} (hi : i < n) : val q (upd c i (addF q (c i) y)) n x = addF q (val q c n x) (mulF q y (pw q x i)) := by
  induction n with
  | zero => omega
  | succ n ih =>
    have hv := val_el h hc hx n
    have hn := (hc n).mul h (El.pw h hx n)
    have hyp := hy.mul h (El.pw h hx i)
    show addF q (val q (upd c i (addF q (c i) y)) n x) (mulF q (upd c i (addF q (c i) y) n) (pw q x n)) = addF q (addF q (val q c n x) (mulF q (c n) (pw q x n))) (mulF q y (pw q x i))
    by_cases e : n = i
    · subst e
      have e2 : val q (upd c n (addF q (c n) y)) n x = val q c n x := lsum_congr fun j hj => by rw [upd_ne _ _ _ _ (by omega)]
      rw [e2, upd_at, mul_comm' h ((hc n).add h hy) (El.pw h hx n), mul_add' h (El.pw h hx n) (hc n) hy, mul_comm' h (El.pw h hx n) (hc n), mul_comm' h (El.pw h hx n) hy, add_assoc' h hv hn hyp]
    · rw [ih (by omega), upd_ne _ _ _ _ e, add_swap h hv hyp hn]
theorem val_none {q x : Int} (h : isSz q = true) (hx : El q x) {f : Nat → Int} {n : Nat} (hz : ∀ i, i < n → f i = 0) : val q f n x = 0 := lsum_zero h fun i hi => by rw [hz i hi, (mul_zero' h (El.pw h hx i)).1]
theorem val_more {q x : Int} {f : Nat → Int} (h : isSz q = true) (hf : ∀ i, El q (f i)) (hx : El q x) {n m : Nat} (hn : n ≤ m) (hz : ∀ i, n ≤ i → f i = 0) : val q f m x = val q f n x := by
  obtain ⟨d, rfl⟩ : ∃ d, m = n + d := ⟨m - n, by omega⟩
  induction d with
  | zero => rfl
  | succ d ih =>
    show addF q (val q f (n + d) x) (mulF q (f (n + d)) (pw q x (n + d))) = _
    rw [hz (n + d) (by omega), (mul_zero' h (El.pw h hx _)).1, (add_zero' h (val_el h hf hx _)).1]
    exact ih (by omega)
/-- Reduction keeps values. -/
theorem val_red {m : Nat} {x : Int} {c : Nat → Int} (h : isSz (m : Int) = true) (hc : ∀ i, El m (c i)) (hx : El m x) (n : Nat) : val m (redR m c n) m x = val m c n x := by
  have hq := isSz_le m h
  induction n with
  | zero => exact val_none h hx fun _ _ => rfl
  | succ n ih =>
    show val m (upd (redR m c n) (idx m n) (addF m (redR m c n (idx m n)) (c n))) m x = addF m (val m c n x) (mulF m (c n) (pw m x n))
    rw [val_upd h (redR_el m c h hc n) hx (hc n) (idx_lt m n (by omega)), ih, pw_idx h hx]
theorem val_cin {q x : Int} {f g c : Nat → Int} (h : isSz q = true) (hf : ∀ i, El q (f i)) (hg : ∀ i, El q (g i)) (hc : ∀ i, El q (c i)) (hx : El q x) {i k N : Nat} (hN : i + k ≤ N) : val q (cin q f g i c k) N x = addF q (val q c N x) (mulF q (mulF q (f i) (pw q x i)) (val q g k x)) := by
  have hv := val_el h hc hx N
  have hfi := (hf i).mul h (El.pw h hx i)
  induction k with
  | zero =>
    show val q c N x = addF q (val q c N x) (mulF q (mulF q (f i) (pw q x i)) 0)
    rw [(mul_zero' h hfi).2, (add_zero' h hv).1]
  | succ k ih =>
    have hgk := (hg k).mul h (El.pw h hx k)
    show val q (upd (cin q f g i c k) (i + k) (addF q (cin q f g i c k (i + k)) (mulF q (f i) (g k)))) N x = addF q (val q c N x) (mulF q (mulF q (f i) (pw q x i)) (addF q (val q g k x) (mulF q (g k) (pw q x k))))
    rw [val_upd h (cin_el h hf hg hc i k) hx ((hf i).mul h (hg k)) (by omega), ih (by omega), mul_add' h hfi (val_el h hg hx k) hgk,
      ← add_assoc' h hv (hfi.mul h (val_el h hg hx k)) (hfi.mul h hgk), ← pw_add q x h hx.1 hx.2,
      mul_assoc' h (hf i) (hg k) ((El.pw h hx i).mul h (El.pw h hx k)), ← mul_assoc' h (hg k) (El.pw h hx i) (El.pw h hx k), mul_comm' h (hg k) (El.pw h hx i),
      mul_assoc' h (El.pw h hx i) (hg k) (El.pw h hx k), ← mul_assoc' h (hf i) (El.pw h hx i) hgk]
/-- Products have the products of values. -/
theorem val_cou {q x : Int} {f g : Nat → Int} (h : isSz q = true) (hf : ∀ i, El q (f i)) (hg : ∀ i, El q (g i)) (hx : El q x) {n k N : Nat} (hN : n + k ≤ N) : val q (cou q f g k n) N x = mulF q (val q f n x) (val q g k x) := by
  have hg' := val_el h hg hx k
  induction n with
  | zero =>
    show val q (fun _ => 0) N x = mulF q 0 (val q g k x)
    rw [val_none h hx fun _ _ => rfl, (mul_zero' h hg').1]
  | succ n ih =>
    show val q (cin q f g n (cou q f g k n) k) N x = mulF q (addF q (val q f n x) (mulF q (f n) (pw q x n))) (val q g k x)
    have hfn := (hf n).mul h (El.pw h hx n)
    have hv := val_el h hf hx n
    rw [val_cin h hf hg (cou_el h hf hg k n) hx (by omega), ih (by omega), mul_comm' h (hv.add h hfn) hg', mul_add' h hg' hv hfn, mul_comm' h hg' hv, mul_comm' h hg' hfn]
theorem val_pls {q x : Int} {f g : Nat → Int} (h : isSz q = true) (hf : ∀ i, El q (f i)) (hg : ∀ i, El q (g i)) (hx : El q x) (n : Nat) : val q (pls q f g) n x = addF q (val q f n x) (val q g n x) := by
  unfold val
  rw [← lsum_add h (fun i _ => (hf i).mul h (El.pw h hx i)) (fun i _ => (hg i).mul h (El.pw h hx i))]
  refine lsum_congr fun i _ => ?_
  unfold pls
  rw [mul_comm' h ((hf i).add h (hg i)) (El.pw h hx i), mul_add' h (El.pw h hx i) (hf i) (hg i), mul_comm' h (El.pw h hx i) (hf i), mul_comm' h (El.pw h hx i) (hg i)]
end Go.Proofs.Ythklnfanbegecac
