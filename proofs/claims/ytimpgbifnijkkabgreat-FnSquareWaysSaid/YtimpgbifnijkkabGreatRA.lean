/- Additive tables: told by the values at the powers of the prime, by the coefficients, and how many values they have (arithmetic alone). -/
import Derived.Test.YtimpgbifnijkkabGreatNB
import Derived.Test.YtimpgbifnijkkabGreatOA
import Derived.Test.YtimpgbifnijkkabGreatOM
namespace Go.Proofs.YtimpgbifnijkkabGreat
/-- The power i of the prime. -/
def pp (q : Int) (i : Nat) : Nat := (pr q).toNat ^ i
/-- One of the powers of x in additive polynomials. -/
def isPw (q : Int) (j : Nat) : Bool := (List.range (plN q)).any fun i => pp q i == j
theorem pp_lt (q : Int) (h : isSz q = true) (i : Nat) (hi : i < plN q) : 1 ≤ pp q i ∧ (pp q i : Int) < q := by
  have hq := isSz_le q h
  have hc := of_chk1 (f := fun q _ => (List.range (plN q)).all fun i => decide (1 ≤ pp q i ∧ (pp q i : Int) < q)) (by decide +kernel) q 0 h (by omega) (by omega)
  exact of_decide_eq_true (List.all_eq_true.1 hc i (List.mem_range.2 hi))
/-- The table of a map that keeps sums. -/
def adI (m : Nat) (t : Nat → Int) : Bool := (List.range m).all fun x => (List.range m).all fun y => t (addF m (x : Int) (y : Int)).toNat == addF m (t x) (t y)
theorem adI_at {m : Nat} {t : Nat → Int} (ha : adI m t = true) {x y : Int} (hx : El (m : Int) x) (hy : El (m : Int) y) : t (addF m x y).toNat = addF m (t x.toNat) (t y.toNat) := by
  obtain ⟨a, rfl⟩ := Int.eq_ofNat_of_zero_le hx.1
  obtain ⟨b, rfl⟩ := Int.eq_ofNat_of_zero_le hy.1
  have h1 := List.all_eq_true.1 (List.all_eq_true.1 ha a (List.mem_range.2 (by have := hx.2; omega))) b (List.mem_range.2 (by have := hy.2; omega))
  simpa using h1
theorem adI_of {m : Nat} {t : Nat → Int} (ha : ∀ x y : Nat, x < m → y < m → t (addF m (x : Int) (y : Int)).toNat = addF m (t x) (t y)) : adI m t = true :=
  List.all_eq_true.2 fun x hx => List.all_eq_true.2 fun y hy => by simpa using ha x y (List.mem_range.1 hx) (List.mem_range.1 hy)
theorem adI_congr {m : Nat} {t u : Nat → Int} (h : isSz (m : Int) = true) (e : ∀ i, i < m → t i = u i) : adI m t = adI m u := by
  have key : ∀ {t u : Nat → Int}, (∀ i, i < m → t i = u i) → adI m t = true → adI m u = true := fun {t u} e ha => adI_of fun x y hx hy => by
    have h1 := adI_at ha (El.nat hx) (El.nat hy)
    have h2 := (El.nat hx).add h (El.nat hy)
    simp only [Int.toNat_natCast] at h1
    rw [← e _ (by have := h2.1; have := h2.2; omega), h1, e x hx, e y hy]
  cases h1 : adI m t with
  | true => exact (key e h1).symm
  | false =>
    cases h2 : adI m u with
    | false => rfl
    | true => rw [key (fun i hi => (e i hi).symm) h2] at h1; cases h1
set_option maxRecDepth 100000 in
theorem frob {q x y : Int} (h : isSz q = true) (hx : El q x) (hy : El q y) (j : Nat) (hj : isPw q j = true) : pw q (addF q x y) j = addF q (pw q x j) (pw q y j) := by
  have hc := of_chk2 (f := fun q x y => (List.range (plN q)).all fun i => pw q (addF q x y) (pp q i) == addF q (pw q x (pp q i)) (pw q y (pp q i))) (by decide +kernel) q x y h hx.1 hx.2 hy.1 hy.2
  obtain ⟨i, hi, he⟩ := List.any_eq_true.1 hj
  have h1 := List.all_eq_true.1 hc i hi
  rw [← eq_of_beq he]
  exact eq_of_beq h1
/-- Polynomials with terms at powers of the prime alone keep sums. -/
theorem val_addit {m : Nat} {r : Nat → Int} (h : isSz (m : Int) = true) (hr : ∀ i, El m (r i)) (hp : ∀ j, j < m → r j = 0 ∨ isPw m j = true) {x y : Int} (hx : El m x) (hy : El m y) :
    val m r m (addF m x y) = addF m (val m r m x) (val m r m y) := by
  unfold val
  rw [← lsum_add h (fun i _ => (hr i).mul h (El.pw h hx i)) (fun i _ => (hr i).mul h (El.pw h hy i))]
  refine lsum_congr fun j hj => ?_
  rcases hp j hj with h0 | h1
  · rw [h0, (mul_zero' h (El.pw h (hx.add h hy) j)).1, (mul_zero' h (El.pw h hx j)).1, (mul_zero' h (El.pw h hy j)).1]
    exact (add_zero' h (El.zero h)).1.symm
  · rw [frob h hx hy j h1, mul_add' h (hr j) (El.pw h hx j) (El.pw h hy j)]
set_option maxRecDepth 100000 in
theorem add_self {q a : Int} (h : isSz q = true) (ha : El q a) (e : addF q a a = a) : a = 0 := by
  have hc := of_chk1 (f := fun q a => !(addF q a a == a) || a == 0) (by decide +kernel) q a h ha.1 ha.2
  rw [e] at hc
  simpa using hc
set_option maxRecDepth 100000 in
theorem add_same {q a b : Int} (h : isSz q = true) (ha : El q a) (hb : El q b) : (addF q a b = b) = (a = 0) := by
  have hc := of_chk2 (f := fun q a b => (addF q a b == b) == (a == 0)) (by decide +kernel) q a b h ha.1 ha.2 hb.1 hb.2
  have h1 := eq_of_beq hc
  apply propext
  constructor
  · intro e; rw [e] at h1; simpa using h1.symm
  · intro e; rw [show (a == 0) = true by simpa using e] at h1; simpa using h1
set_option maxRecDepth 100000 in
theorem mul_next {q c b : Int} (h : isSz q = true) (hc : El q c) (hb : El q b) (h1 : c + 1 < pr q) : mulF q (c + 1) b = addF q (mulF q c b) b := by
  have hk := of_chk2 (f := fun q c b => !decide (c + 1 < pr q) || mulF q (c + 1) b == addF q (mulF q c b) b) (by decide +kernel) q c b h hc.1 hc.2 hb.1 hb.2
  simp only [h1, decide_true, Bool.not_true, Bool.false_or] at hk
  exact eq_of_beq hk
theorem pr_le {q : Int} (h : isSz q = true) : pr q ≤ q := by
  rcases sz_split q h with rfl | rfl | rfl | rfl | rfl | rfl | rfl | rfl | rfl | rfl <;> decide
theorem ad_zero {m : Nat} {t : Nat → Int} (h : isSz (m : Int) = true) (ht : ∀ i, i < m → El m (t i)) (ha : adI m t = true) : t 0 = 0 := by
  have hq := isSz_le (m : Int) h
  have h1 := adI_at ha (El.zero h) (El.zero h)
  rw [(add_zero' h (El.zero h)).1] at h1
  exact add_self h (ht 0 (by omega)) h1.symm
theorem ad_scale {m : Nat} {t : Nat → Int} (h : isSz (m : Int) = true) (ht : ∀ i, i < m → El m (t i)) (ha : adI m t = true) {x : Int} (hx : El m x) : ∀ c : Nat, (c : Int) < pr m → t (mulF m c x).toNat = mulF m c (t x.toNat) := by
  have hp := pr_le h
  have hxn : x.toNat < m := by have := hx.1; have := hx.2; omega
  intro c
  induction c with
  | zero =>
    intro _
    rw [Int.natCast_zero, (mul_zero' h hx).1, (mul_zero' h (ht _ hxn)).1]
    exact ad_zero h ht ha
  | succ c ih =>
    intro hc
    have hce : El (m : Int) (c : Int) := ⟨by omega, by omega⟩
    rw [Int.natCast_succ, mul_next h hce hx (by omega), mul_next h hce (ht _ hxn) (by omega), adI_at ha (hce.mul h hx) hx, ih (by omega)]
theorem ad_sum {m : Nat} {t u : Nat → Int} (h : isSz (m : Int) = true) (ht : ∀ i, i < m → El m (t i)) (ha : adI m t = true) : ∀ n, (∀ i, i < n → El m (u i)) → t (lsum m u n).toNat = lsum m (fun i => t (u i).toNat) n := by
  intro n
  induction n with
  | zero => intro _; exact ad_zero h ht ha
  | succ n ih =>
    intro hu
    show t (addF m (lsum m u n) (u n)).toNat = addF m (lsum m (fun i => t (u i).toNat) n) (t (u n).toNat)
    rw [adI_at ha (lsum_el h fun i hi => hu i (by omega)) (hu n (by omega)), ih fun i hi => hu i (by omega)]
theorem dg_el {q : Int} (h : isSz q = true) (a : Int) (i : Nat) : El q (dg q a i) := by
  have h1 := dg_bd q a i h
  have h2 := pr_le h
  exact ⟨h1.1, by omega⟩
theorem pp_el {q : Int} (h : isSz q = true) (i : Nat) (hi : i < plN q) : El q (pp q i : Int) := ⟨by omega, (pp_lt q h i hi).2⟩
set_option maxRecDepth 100000 in
theorem by_digits {q a : Int} (h : isSz q = true) (ha : El q a) : a = lsum q (fun i => mulF q (dg q a i) (pp q i : Int)) (plN q) :=
  of_decide_eq_true (of_chk1 (f := fun q a => decide (a = lsum q (fun i => mulF q (dg q a i) (pp q i : Int)) (plN q))) (by decide +kernel) q a h ha.1 ha.2)
/-- The values of a map that keeps sums, by digits. -/
theorem ad_dec {m : Nat} {t : Nat → Int} (h : isSz (m : Int) = true) (ht : ∀ i, i < m → El m (t i)) (ha : adI m t = true) {a : Int} (hx : El m a) : t a.toNat = lsum m (fun i => mulF m (dg m a i) (t (pp m i))) (plN m) := by
  have e := ad_sum h ht ha (u := fun i => mulF m (dg m a i) (pp m i : Int)) (plN m) fun i hi => (dg_el h a i).mul h (pp_el h i hi)
  rw [← by_digits h hx] at e
  rw [e]
  refine lsum_congr fun i hi => ?_
  obtain ⟨c, hc⟩ := Int.eq_ofNat_of_zero_le (dg_bd m a i h).1
  have hb := (dg_bd m a i h).2
  rw [hc] at hb ⊢
  have := ad_scale h ht ha (pp_el h i hi) c hb
  rwa [Int.toNat_natCast] at this
set_option maxRecDepth 100000 in
theorem dg_cf {q : Int} (h : isSz q = true) (i j : Nat) (hi : i < plN q) (hj : (j : Int) < q) (hp : isPw q j = false) : lsum q (fun a => mulF q (dg q (a : Int) i) (cf q (a : Int) j)) q.toNat = 0 := by
  have hc := of_chk1 (f := fun q j => isPw q j.toNat || (List.range (plN q)).all fun i => lsum q (fun a => mulF q (dg q (a : Int) i) (cf q (a : Int) j.toNat)) q.toNat == 0) (by decide +kernel) q (j : Int) h (by omega) hj
  simp only [Int.toNat_natCast, hp, Bool.false_or] at hc
  exact eq_of_beq (List.all_eq_true.1 hc i (List.mem_range.2 hi))
/-- The polynomial of a map that keeps sums has no other terms. -/
theorem ad_coef {m : Nat} {t : Nat → Int} (h : isSz (m : Int) = true) (ht : ∀ i, i < m → El m (t i)) (ha : adI m t = true) (j : Nat) (hj : j < m) (hp : isPw m j = false) : ipl m t m j = 0 := by
  have hT : ∀ i, i < plN m → El m (t (pp m i)) := fun i hi => ht _ (by have := (pp_lt m h i hi).2; omega)
  have e1 : ipl m t m j = lsum m (fun a => lsum m (fun i => mulF m (mulF m (dg m (a : Int) i) (t (pp m i))) (cf m (a : Int) j)) (plN m)) m := by
    unfold ipl
    refine lsum_congr fun a hx => ?_
    have := ad_dec h ht ha (El.nat hx)
    rw [Int.toNat_natCast] at this
    rw [this]
    exact (lsum_mulr h (cf_el h (El.nat hx) j) fun i hi => (dg_el h _ i).mul h (hT i hi)).symm
  rw [e1, lsum_swap h fun a i hx hi => ((dg_el h _ i).mul h (hT i hi)).mul h (cf_el h (El.nat hx) j)]
  refine lsum_zero h fun i hi => ?_
  rw [lsum_congr (v := fun a => mulF m (t (pp m i)) (mulF m (dg m (a : Int) i) (cf m (a : Int) j))) fun a hx => by
      rw [mul_comm' h (dg_el h _ i) (hT i hi), mul_assoc' h (hT i hi) (dg_el h _ i) (cf_el h (El.nat hx) j)],
    lsum_mul h (hT i hi) fun a hx => (dg_el h _ i).mul h (cf_el h (El.nat hx) j)]
  have := dg_cf h i j hi (by omega) hp
  rw [Int.toNat_natCast] at this
  rw [this, (mul_zero' h (hT i hi)).2]
/-- Terms from s on, at powers of the prime alone. -/
def adC (q : Int) (f : Nat → Int) (s n : Nat) : Bool := (List.range n).all fun j => decide (j < s) || (f j == 0 || isPw q j)
theorem adC_all {q : Int} {f : Nat → Int} {s n : Nat} : adC q f s n = true ↔ ∀ j, j < n → s ≤ j → f j = 0 ∨ isPw q j = true := by
  unfold adC
  rw [List.all_eq_true]
  constructor
  · intro ha j hj hs
    have := ha j (List.mem_range.2 hj)
    simp only [Bool.or_eq_true, decide_eq_true_eq, beq_iff_eq] at this
    rcases this with h1 | h1
    · omega
    · exact h1
  · intro ha j hj
    simp only [Bool.or_eq_true, decide_eq_true_eq, beq_iff_eq]
    by_cases hs : j < s
    · exact .inl hs
    · exact .inr (ha j (List.mem_range.1 hj) (by omega))
theorem bool_ext {a b : Bool} (h : a = true ↔ b = true) : a = b := by
  cases a <;> cases b <;> simp_all
/-- A polynomial is additive exactly if it has such terms alone. -/
theorem ad_tell {m n : Nat} {r t : Nat → Int} (h : isSz (m : Int) = true) (hr : ∀ i, El m (r i)) (hn : n ≤ m) (hz : ∀ i, n ≤ i → r i = 0) (ht : ∀ a, a < m → t a = val m r m (a : Int)) : adI m t = adC m r 0 n := by
  have hte : ∀ i, i < m → El m (t i) := fun i hi => by rw [ht i hi]; exact val_el h hr (El.nat hi) m
  apply bool_ext
  rw [adC_all]
  constructor
  · intro ha j hj _
    cases hp : isPw m j with
    | true => exact .inr rfl
    | false =>
      have := ad_coef h hte ha j (by omega) hp
      rw [ipl_val h hr ht j (by omega)] at this
      exact .inl this
  · intro ha
    refine adI_of fun x y hx hy => ?_
    have hs := (El.nat hx).add h (El.nat hy)
    have hs2 : (addF m (x : Int) (y : Int)).toNat < m := by have := hs.1; have := hs.2; omega
    rw [ht _ hs2, ht x hx, ht y hy, Int.toNat_of_nonneg hs.1]
    refine val_addit h hr (fun j hj => ?_) (El.nat hx) (El.nat hy)
    by_cases hjn : j < n
    · exact ha j hjn (Nat.zero_le _)
    · exact .inl (hz j (by omega))
set_option maxRecDepth 100000 in
theorem sub_add {q a b : Int} (h : isSz q = true) (ha : El q a) (hb : El q b) : subF q (addF q a b) a = b :=
  of_decide_eq_true (of_chk2 (f := fun q a b => decide (subF q (addF q a b) a = b)) (by decide +kernel) q a b h ha.1 ha.2 hb.1 hb.2)
theorem val_cut {m : Nat} {r : Nat → Int} (h : isSz (m : Int) = true) (hr : ∀ i, El m (r i)) {x : Int} (hx : El m x) : val m r m x = addF m (r 0) (val m (upd r 0 0) m x) := by
  have hq := isSz_le (m : Int) h
  obtain ⟨k, rfl⟩ : ∃ k, m = k + 1 := ⟨m - 1, by omega⟩
  have hu : ∀ i, El ((k + 1 : Nat) : Int) (upd r 0 0 i) := fun i => by
    unfold upd
    split
    · exact El.zero h
    · exact hr i
  unfold val
  rw [lsum_front h fun i _ => (hr i).mul h (El.pw h hx i), lsum_front (u := fun i => mulF ((k + 1 : Nat) : Int) (upd r 0 0 i) (pw ((k + 1 : Nat) : Int) x i)) h fun i _ => (hu i).mul h (El.pw h hx i)]
  have e0 : mulF ((k + 1 : Nat) : Int) (r 0) (pw ((k + 1 : Nat) : Int) x 0) = r 0 := (mul_one' h (hr 0)).2
  have e1 : mulF ((k + 1 : Nat) : Int) (upd r 0 0 0) (pw ((k + 1 : Nat) : Int) x 0) = 0 := (mul_zero' h (El.pw h hx 0)).1
  have e2 : lsum ((k + 1 : Nat) : Int) (fun i => mulF ((k + 1 : Nat) : Int) (upd r 0 0 (i + 1)) (pw ((k + 1 : Nat) : Int) x (i + 1))) k = lsum ((k + 1 : Nat) : Int) (fun i => mulF ((k + 1 : Nat) : Int) (r (i + 1)) (pw ((k + 1 : Nat) : Int) x (i + 1))) k := lsum_congr fun i _ => by rw [upd_ne _ _ _ _ (by omega)]
  have hz : El ((k + 1 : Nat) : Int) (lsum ((k + 1 : Nat) : Int) (fun i => mulF ((k + 1 : Nat) : Int) (r (i + 1)) (pw ((k + 1 : Nat) : Int) x (i + 1))) k) := lsum_el h fun i _ => (hr (i + 1)).mul h (El.pw h hx (i + 1))
  simp only [e0, e1, e2, (add_zero' h hz).2]
/-- A polynomial is an additive one with an element added exactly if it has such terms alone behind the first. -/
theorem ad_moved {m n : Nat} {r t : Nat → Int} (h : isSz (m : Int) = true) (hr : ∀ i, El m (r i)) (hn : n ≤ m) (hz : ∀ i, n ≤ i → r i = 0) (ht : ∀ a, a < m → t a = val m r m (a : Int)) : adI m (fun a => subF m (t a) (t 0)) = adC m r 1 n := by
  have hq := isSz_le (m : Int) h
  have hu : ∀ i, El (m : Int) (upd r 0 0 i) := fun i => by
    unfold upd
    split
    · exact El.zero h
    · exact hr i
  have h0 : t 0 = r 0 := by
    rw [ht 0 (by omega), Int.natCast_zero, val_cut h hr (El.zero h)]
    have : val m (upd r 0 0) m 0 = 0 := lsum_zero h fun i _ => by
      cases i with
      | zero => exact (mul_zero' h (El.pw h (El.zero h) 0)).1
      | succ i => rw [show pw m 0 (i + 1) = 0 from (mul_zero' h (El.pw h (El.zero h) i)).2]; exact (mul_zero' h (hu _)).2
    rw [this, (add_zero' h (hr 0)).1]
  rw [ad_tell (r := upd r 0 0) (n := n) h hu hn ?_ ?_]
  · apply bool_ext
    rw [adC_all, adC_all]
    constructor
    · intro ha j hj hs
      have := ha j hj (Nat.zero_le _)
      rwa [upd_ne _ _ _ _ (by omega)] at this
    · intro ha j hj _
      cases j with
      | zero => exact .inl (upd_at _ _ _)
      | succ j => rw [upd_ne _ _ _ _ (by omega)]; exact ha _ hj (by omega)
  · intro i hi
    unfold upd
    split
    · rfl
    · exact hz i hi
  · intro a hx
    show subF m (t a) (t 0) = _
    rw [h0, ht a hx, val_cut h hr (El.nat hx), sub_add h (hr 0) (val_el h hu (El.nat hx) m)]
/-! ### how many values -/
theorem oc_cnt {m : Nat} {t : Nat → Int} (y : Nat) : ∀ n, (∀ i, i < n → El (m : Int) (t i)) → oc t n y = ((List.range n).countP fun x => t x == (y : Int) : Nat) := by
  intro n
  induction n with
  | zero => intro _; rfl
  | succ n ih =>
    intro ht
    have h1 := ih fun i hi => ht i (by omega)
    obtain ⟨k, hk⟩ := Int.eq_ofNat_of_zero_le (ht n (by omega)).1
    rw [oc_succ t n k hk, List.range_succ, List.countP_append]
    by_cases e : y = k
    · subst e
      rw [upd_at, h1]
      simp [hk]
    · rw [upd_ne _ _ _ _ e, h1]
      have : ¬ ((k : Int) = (y : Int)) := by omega
      simp [hk, this]
theorem oc_total {m : Nat} {t : Nat → Int} : ∀ n, (∀ i, i < n → El (m : Int) (t i)) → sg (fun y => (oc t n y).toNat) m = n := by
  intro n
  induction n with
  | zero =>
    intro _
    show sg (fun _ => 0) m = 0
    rw [sg_const]; omega
  | succ n ih =>
    intro ht
    have h1 := ih fun i hi => ht i (by omega)
    obtain ⟨k, hk⟩ := Int.eq_ofNat_of_zero_le (ht n (by omega)).1
    have hkm : k < m := by have := (ht n (by omega)).2; omega
    have hb := oc_bd t n
    rw [oc_succ t n k hk]
    have key : ∀ M, sg (fun y => (upd (oc t n) k (oc t n k + 1) y).toNat) M = sg (fun y => (oc t n y).toNat) M + if k < M then 1 else 0 := by
      intro M
      induction M with
      | zero => rfl
      | succ M ihM =>
        show sg (fun y => (upd (oc t n) k (oc t n k + 1) y).toNat) M + (upd (oc t n) k (oc t n k + 1) M).toNat = sg (fun y => (oc t n y).toNat) M + (oc t n M).toNat + if k < M + 1 then 1 else 0
        rw [ihM]
        have hbk := hb k
        by_cases e : M = k
        · subst e
          rw [upd_at, if_neg (by omega), if_pos (by omega)]
          omega
        · rw [upd_ne _ _ _ _ e]
          by_cases e2 : k < M
          · rw [if_pos e2, if_pos (by omega)]; omega
          · rw [if_neg e2, if_neg (by omega)]; omega
    rw [key m, if_pos hkm, h1]
set_option maxRecDepth 100000 in
theorem add_perm {m : Nat} (h : isSz (m : Int) = true) (b : Nat) (hb : b < m) : ((List.range m).map fun x : Nat => (addF m (x : Int) (b : Int)).toNat).Perm (List.range m) := by
  have hc := of_chk1 (f := fun q b => ((List.range q.toNat).map fun x : Nat => (addF q (x : Int) b).toNat).isPerm (List.range q.toNat)) (by decide +kernel) (m : Int) (b : Int) h (by omega) (by omega)
  rw [Int.toNat_natCast] at hc
  exact List.isPerm_iff.1 hc
/-- Each value is met as often as 0. -/
theorem ad_even {m : Nat} {t : Nat → Int} (h : isSz (m : Int) = true) (ht : ∀ i, i < m → El m (t i)) (ha : adI m t = true) (b : Nat) (hb : b < m) : oc t m (t b).toNat = oc t m 0 := by
  rw [oc_cnt (m := m) _ m ht, oc_cnt (m := m) _ m ht]
  have hp := (add_perm h b hb).countP_eq (fun x => t x == ((t b).toNat : Int))
  rw [← hp, List.countP_map]
  congr 1
  refine List.countP_congr fun x hx => ?_
  have hx' := List.mem_range.1 hx
  have e := adI_at ha (El.nat hx') (El.nat hb)
  simp only [Int.toNat_natCast] at e
  simp only [Function.comp, beq_iff_eq]
  rw [e, Int.toNat_of_nonneg (ht b hb).1, add_same h (ht x hx') (ht b hb)]
  simp
theorem sg_mul (c : Nat) (G : Nat → Nat) : ∀ n, sg (fun i => c * G i) n = c * sg G n := by
  intro n
  induction n with
  | zero => rfl
  | succ n ih =>
    show sg (fun i => c * G i) n + c * G n = c * (sg G n + G n)
    rw [ih, Nat.mul_add]
/-- As many values as the size divided by the elements of the kernel. -/
theorem ad_share {m : Nat} {t : Nat → Int} (h : isSz (m : Int) = true) (ht : ∀ i, i < m → El m (t i)) (ha : adI m t = true) : (oc t m 0).toNat * sg (fun y => if decide (0 < oc t m y) then 1 else 0) m = m := by
  rw [← sg_mul]
  refine Eq.trans (sg_congr m fun y hy => ?_) (oc_total (m := m) m ht)
  by_cases hp : 0 < oc t m y
  · simp only [decide_eq_true hp, if_pos]
    have hc := oc_cnt (m := m) y m ht
    have : 0 < (List.range m).countP fun x => t x == (y : Int) := by omega
    obtain ⟨x, hx, hxy⟩ := List.countP_pos_iff.1 this
    have e := ad_even h ht ha x (List.mem_range.1 hx)
    rw [eq_of_beq hxy, Int.toNat_natCast] at e
    rw [e]
    omega
  · simp only [decide_eq_false hp]
    have := oc_bd t m y
    simp
    omega
set_option maxRecDepth 100000 in
theorem div_pow {q : Int} (h : isSz q = true) (z n : Nat) (e : z * n = q.toNat) : ∃ r, r ≤ plN q ∧ n = pp q r := by
  have hq := isSz_le q h
  have hc := of_chk1 (f := fun q _ => (List.range 17).all fun z => (List.range 17).all fun n => !(z * n == q.toNat) || (List.range (plN q + 1)).any fun r => n == pp q r) (by decide +kernel) q 0 h (by omega) (by omega)
  have hz : 1 ≤ z := by cases z with
    | zero => rw [Nat.zero_mul] at e; omega
    | succ z => omega
  have hn : 1 ≤ n := by cases n with
    | zero => rw [Nat.mul_zero] at e; omega
    | succ n => omega
  have h1 : z ≤ z * n := Nat.le_mul_of_pos_right z hn
  have h2 : n ≤ z * n := Nat.le_mul_of_pos_left n hz
  have h3 := List.all_eq_true.1 (List.all_eq_true.1 hc z (List.mem_range.2 (by omega))) n (List.mem_range.2 (by omega))
  simp only [e, beq_self_eq_true, Bool.not_true, Bool.false_or] at h3
  obtain ⟨r, hr, he⟩ := List.any_eq_true.1 h3
  exact ⟨r, by have := List.mem_range.1 hr; omega, eq_of_beq he⟩
/-- The rank. -/
theorem ad_rank {m : Nat} {t : Nat → Int} (h : isSz (m : Int) = true) (ht : ∀ i, i < m → El m (t i)) (ha : adI m t = true) : ∃ r, r ≤ plN m ∧ sg (fun y => if decide (0 < oc t m y) then 1 else 0) m = pp m r :=
  div_pow h _ _ (by rw [ad_share h ht ha, Int.toNat_natCast])
end Go.Proofs.YtimpgbifnijkkabGreat
