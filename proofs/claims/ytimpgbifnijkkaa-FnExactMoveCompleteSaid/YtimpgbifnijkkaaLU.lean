/- InversePoly, of both, by contracts; the walk of its law. -/
import Derived.Test.YtimpgbifnijkkaaLS
namespace Go.Proofs.Ytimpgbifnijkkaa
open Go.RowKit Go.Maps
/-- What takes each of the first k values back. -/
def bk (t : Nat → Int) : Nat → (Nat → Int)
  | 0 => fun _ => 0
  | k + 1 => upd (bk t k) (t k).toNat (k : Int)
theorem bk_at {t : Nat → Int} {m : Nat} (ht : ∀ i, i < m → 0 ≤ t i ∧ t i < (m : Int)) (hd : dis t m = true) : ∀ k, k ≤ m → ∀ x, x < k → bk t k (t x).toNat = (x : Int)
  | 0, _, x, hx => absurd hx (Nat.not_lt_zero _)
  | k + 1, hk, x, hx => by
    by_cases e : x = k
    · subst e
      rw [bk, upd_at]
    · have h1 := ht x (by omega)
      have h2 := ht k (by omega)
      have h3 := dis_iff.1 hd k (by omega) x (by omega)
      rw [bk, upd_ne _ _ _ _ (by omega)]
      exact bk_at ht hd k (by omega) x (by omega)
theorem bk_inv {t : Nat → Int} {m : Nat} (ht : ∀ i, i < m → 0 ≤ t i ∧ t i < (m : Int)) (hd : dis t m = true) : fl (bk t m) m = fl (inv t m) m :=
  fl_congr (inv_of ht hd (bk_at ht hd m (Nat.le_refl _)))
/-- What has been met is taken back. -/
def Met (t : Nat → Int) (m : Nat) (c : Nat → Int) (left : Lit → Bool) : Prop := ∀ x, x < m → left (.int .i64 (x : Nat)) = false → c (t x).toNat = (x : Int)
theorem met_start (t : Nat → Int) (m : Nat) (c : Nat → Int) : Met t m c (has (mp t m)) := fun x hx h => by
  rw [mp_has] at h
  simp [hx] at h
theorem met_step {t c : Nat → Int} {m x : Nat} {left : Lit → Bool} (ht : ∀ i, i < m → 0 ≤ t i ∧ t i < (m : Int)) (hd : dis t m = true) (h : Met t m c left) (hx : x < m) : Met t m (upd c (t x).toNat (x : Int)) (fun z => left z && !z.sameKey (.int .i64 (x : Nat))) := by
  intro y hy hl
  by_cases e : y = x
  · subst e
    rw [upd_at]
  · rw [left_fst e] at hl
    have h1 := ht x hx
    have h2 := ht y hy
    have h3 : t x ≠ t y := by
      rcases Nat.lt_or_gt_of_ne e with g | g
      · exact fun e' => dis_iff.1 hd x hx y g e'.symm
      · exact dis_iff.1 hd y hy x g
    rw [upd_ne _ _ _ _ (by omega)]
    exact h y hy hl
theorem met_end {t c : Nat → Int} {m : Nat} {left : Lit → Bool} (ht : ∀ i, i < m → 0 ≤ t i ∧ t i < (m : Int)) (hd : dis t m = true) (h : Met t m c left) (hl : ∀ kl, left kl = false) : ∀ y, y < m → c y = inv t m y :=
  inv_of ht hd fun x hx => h x hx (hl _)
/-- The memory of inverse. -/
structure IV (w0 wr : World) (m gB : Nat) (c : Nat → Int) : Prop where
  hp : ∃ v, wr.heap[w0.heap.size]? = some (pblk (m : Int) v)
  hr : wr.heap[w0.heap.size + 1]? = some pzblk
  hk : Blk wr gB m
  he : Els wr gB (m : Int) c m
  bel : Below w0.heap.size w0 wr
  low : w0.heap.size + 1 < gB
theorem IV.grown {w0 wr w' : World} {m gB : Nat} {c : Nat → Int} (h : IV w0 wr m gB c) {row : Option Nat} (hg : wr.grownBy w' row) (hrow : ∀ k, row = some k → gB < k) : IV w0 w' m gB c := by
  have hl := h.low
  have hk := h.hk.lt
  have hs := h.bel.size
  have hne : ∀ k, k ≤ gB → some k ≠ row := fun k hk e => by have := hrow k e.symm; omega
  obtain ⟨v, hp⟩ := h.hp
  exact ⟨⟨v, (hg.block _ (by omega) (hne _ (by omega))).trans hp⟩, (hg.block _ (by omega) (hne _ (by omega))).trans h.hr, h.hk.same (hg.block _ (by omega) (hne _ (by omega))), h.he.same (hg.block _ (by omega) (hne _ (by omega))), h.bel.grown hg (by omega) (fun j hj => by have := hrow j hj; omega), hl⟩
theorem IV.below {w0 wr w' : World} {m gB B : Nat} {c : Nat → Int} (h : IV w0 wr m gB c) (hb : Below B wr w') (hB : wr.heap.size ≤ B) : IV w0 w' m gB c := by
  have hl := h.low
  have hk := h.hk.lt
  have hs := h.bel.size
  obtain ⟨v, hp⟩ := h.hp
  exact ⟨⟨v, (hb.block _ (by omega)).trans hp⟩, (hb.block _ (by omega)).trans h.hr, h.hk.below hb (by omega), h.he.below hb (by omega), h.bel.trans (hb.mono (by omega)), hl⟩
theorem IV.step {w0 wr : World} {m gB i : Nat} {c : Nat → Int} (h : IV w0 wr m gB c) (hi : i < m) (x : Int) : IV w0 (put7i wr gB i (m : Int) x) m gB (upd c i x) := by
  have hl := h.low
  obtain ⟨he, hk⟩ := Els.put x h.hk hi (Nat.le_refl _) h.he
  obtain ⟨v, hp⟩ := h.hp
  exact ⟨⟨v, (put7i_other _ _ _ _ _ _ (by omega)).trans hp⟩, (put7i_other _ _ _ _ _ _ (by omega)).trans h.hr, hk, he, put7i_below h.bel _ (by omega) _ _ _, hl⟩
theorem ranges_same {P : Program} {k : TypeId} {R : Value → Option (DataW Unit × List MemPlace)} {w w' : World} {b r n cnt : Nat} {D : DataW Unit} {left : Lit → Bool} (h : w.ranges P k R b r n D left cnt) (h1 : w'.heap[b]? = w.heap[b]?) (h2 : w'.heap[r]? = w.heap[r]?) : w'.ranges P k R b r n D left cnt := by
  obtain ⟨es, clock, since, seen, c0, e1, F, hs, hD, e2, rest⟩ := h
  exact ⟨es, clock, since, seen, c0, h1.trans e1, F, hs, hD, h2.trans e2, rest⟩
set_option maxHeartbeats 4000000 in
set_option maxRecDepth 100000 in
/-- impl.poly.inverse. -/
theorem inversePE (m g n cap : Nat) (f : Nat → Int) (w : World) (h : isSz (m : Int) = true) (hg : g < w.heap.size) (he : Els w g (m : Int) f n) (hf : ∀ i, El (m : Int) (f i)) (hn : n ≤ 1000) (hd : dis (tabF (m : Int) f n) m = true) :
    Calls Try.prog 52 #[polyE (m : Int) (.slice (some ⟨g, 0, none⟩) n cap)] w fun e w' => ∃ g k cap f', e = .returned (polyE (m : Int) (.slice (some ⟨g, 0, none⟩) k cap)) ∧ g < w'.heap.size ∧ Els w' g (m : Int) f' k ∧ (∀ i, El (m : Int) (f' i)) ∧ k ≤ m ∧ fl f' k = ftl m (inv (tabF (m : Int) f n) m) ∧ Below w.heap.size w w' := by
  have hq := isSz_le (m : Int) h
  have HT := Lib.hid (fun w' (hb : Below w.heap.size w w') => stepsE m g n cap f w' h (by have := hb.size; omega) (he.below hb hg) hf hn)
  have HZ := Lib.hid (fun w => zerosE (m : Int) m w h (by omega))
  have hte := fun i (hi : i < m) => tab_el (k := n) h hf i hi
  generalize tabF (m : Int) f n = t at *
  have HTE : Hid (∀ i, i < m → 0 ≤ t i ∧ t i < (m : Int)) := Lib.hid fun i hi => ⟨(hte i hi).1, (hte i hi).2⟩
  have HWT := Lib.hid (fun v w' (hs : Se w' v (m : Int) (inv t m) m) => withTableT m v (inv t m) w' h hs (fun i hi => inv_lt (by omega)))
  have HEL := Lib.hid (fun x w (hx : x < m) => elementE (m : Int) (x : Int) w h (by omega) (by omega))
  have HMS := Lib.hid (fun c x left (h : Met t m c left) (hx : x < m) => met_step HTE.out hd h hx)
  have HME := Lib.hid (fun c left (h : Met t m c left) hl => met_end HTE.out hd h hl)
  clear he hf h hte hd
  go_enter Try.func52, Try.ntmps52
  go_wp2_with fail
  refine (HZ.out _).mono ?_
  rintro e w1 ⟨gB, rfl, hgB, hk1, he1, hb1⟩
  simp at hgB
  obtain ⟨t0, t1⟩ := two w (pblk (m : Int) (.slice (some ⟨g, 0, none⟩) n cap)) pzblk
  have hb1' : Below (w.heap.size + 2) ((w.alloc (pblk (m : Int) (.slice (some ⟨g, 0, none⟩) n cap))).alloc pzblk) w1 := hb1.mono (by simp)
  have hz1 := hb1'.size
  simp at hz1
  obtain ⟨p0, p1, p2, p3, pf, pl0⟩ := cells4 ((hb1'.block _ (by omega)).trans t0)
  have HP1 := Lib.hid ((hb1'.block _ (by omega)).trans t0)
  have HR1 := Lib.hid ((hb1'.block _ (by omega)).trans t1)
  have hbw1 : Below w.heap.size w w1 := by (repeat' (first | (with_reducible assumption) | (with_reducible exact Below.refl _ _) | (with_reducible refine below_drewN ?_ _) | (with_reducible refine Below.drew ?_) | (with_reducible refine Below.alloc ?_ ?_ _) | (with_reducible refine Below.setCell ?_ ?_ _) | (with_reducible refine Below.trans ?_ (Below.mono (by assumption) ?_)) | (with_reducible exact Nat.le_refl _) | (with_reducible assumption) | omega | (simp; omega) | (simp; done)))
  have HB1 := Lib.hid hbw1
  have hgl1 := hk1.lt
  have HK1 := Lib.hid hk1
  have HE1 := Lib.hid he1
  clear hk1 he1 hb1 hb1' t0 t1 hbw1
  go_wp2_with fail
  refine (HT.out _ HB1.out).mono ?_
  rintro e w2 ⟨B, rfl, hB0, hB1, hm2, hb2⟩
  have hz2 := hb2.size
  have HP2 := Lib.hid ((hb2.block w.heap.size (by omega)).trans HP1.out)
  have HR2 := Lib.hid ((hb2.block (w.heap.size + 1) (by omega)).trans HR1.out)
  have HK2 := Lib.hid (HK1.out.below hb2 (by omega))
  have HE2 := Lib.hid (HE1.out.below hb2 (by omega))
  have HB2 : Hid (Below w.heap.size w w2) := Lib.hid (HB1.out.trans (hb2.mono (by omega)))
  have HM2 := Lib.hid hm2; clear hm2 hb2 p0 p1 p2 p3 pf pl0
  go_wp2_with (first
    | (at_range; refine wpList_range_own _ rfl _ 87 rfl 3 3 Try.lawI Try.underlying87 _ B m _ rfl HM2.out ?_; intro w4 hrg0 hg0 hs0)
    | go_in)
  have hz4 := hg0.size
  have hiv : IV w w4 m gB (fun _ => 0) := ⟨(hg0.block _ (by omega) (by simp)).trans HP2.out |> fun h => ⟨_, h⟩, (hg0.block _ (by omega) (by simp)).trans HR2.out, HK2.out.same (hg0.block _ (by omega) (by simp)), HE2.out.same (hg0.block _ (by omega) (by simp)), HB2.out.grown hg0 (by omega) (fun j hj => by cases hj), by omega⟩
  have HIV := Lib.hid hiv
  have HR4 := Lib.hid hrg0
  clear hrg0 hg0 hiv
  go_frame
  go_loopw [15] (fun _ wr => ∃ (left : Lit → Bool) (cnt : Nat) (c : Nat → Int), wr.ranges Try.prog 3 (plainElem (H := Unit) Try.prog 3) B w2.heap.size m (mp t m) left cnt ∧ IV w wr m gB c ∧ Met t m c left) (fun _ wr => wr.rangeLeft B w2.heap.size)
  case atStart => exact ⟨_, _, _, HR4.out, HIV.out, met_start t m _⟩
  case round =>
    obtain ⟨left, cnt, c, hrg, hiv, hmet⟩ := hrel
    have HMET := Lib.hid hmet; clear hmet
    have hlow := hiv.low
    have hgl := hiv.hk.lt
    have hbz := hiv.bel.size
    obtain ⟨v0, hp⟩ := hiv.hp
    obtain ⟨p0, p1, p2, p3, pf, pl0⟩ := cells4 hp
    obtain ⟨r0, r1, r2, r3, rf, rl0⟩ := cells4 hiv.hr
    have HI := Lib.hid hiv; clear hiv hp
    have hB0 : gB < w2.heap.size := by omega
    have hBB : gB < B := by omega
    have hbl : B < wr.heap.size := hrg.owns.lt
    have hrl : w2.heap.size < wr.heap.size := hrg.lt
    go_wp2_with (first
      | (at_next; refine wpList_next_ranges_ii _ rfl _ rfl 3 3 .i64 .i64 Try.lawI Try.underlying3 Try.underlying3 B w2.heap.size m _ _ _ rfl hrg ?_ ?_)
      | go_in)
    · intro _ hl0
      have HC := Lib.hid (HME.out c left HMET.out hl0)
      have HSE : Hid (Se wr (.slice (some ⟨gB, 0, none⟩) m m) (m : Int) (inv t m) m) := Lib.hid ⟨gB, m, rfl, hgl, HI.out.he.congr HC.out⟩
      go_wp2_with fail
      refine (HWT.out _ _ HSE.out).mono ?_
      rintro e w6 ⟨g6, k6, cp6, f6, rfl, hg6, he6, hf6, hk6, hfl6, hb6⟩
      have HE6 := Lib.hid he6; clear he6
      have hI6 := HI.out.below hb6 (Nat.le_refl _)
      clear r0 r1 r2 r3 rf rl0 p0 p1 p2 p3 pf pl0 hb6
      obtain ⟨r0, r1, r2, r3, rf, rl0⟩ := cells4 hI6.hr
      have HI6 := Lib.hid hI6; clear hI6
      go_wp2_with fail
      refine bodyPost_ret (v := polyE (m : Int) (.slice (some ⟨g6, 0, none⟩) k6 cp6)) (by simp [results, Try.results52, go_sem, r0, r1, r2, r3]) rfl ⟨g6, k6, cp6, f6, rfl, by simp; omega, ?_, hf6, hk6, hfl6, ?_⟩
      · exact HE6.out.over HI6.out.hr (by omega) (fun k hk => put4_other _ _ _ _ _ hk)
      · exact put4_below HI6.out.bel _ (by omega) _ _
    · intro x y w5 cnt1 hwx hwc hlx hat hrg1 hlt hg1 hs1 hen
      obtain ⟨X, hX, ex⟩ := mp_keys t m _ (has_true_of_atKey hat)
      obtain rfl : x = (X : Int) := by cases ex; rfl
      have hc1 : y = t X := by
        have := hat .nil
        rw [mp_at t m X hX] at this
        cases this
        rfl
      obtain ⟨y0, y1⟩ := HTE.out X hX
      have HS := Lib.hid (HMS.out c X left HMET.out hX)
      obtain ⟨Y, hY⟩ := Int.eq_ofNat_of_zero_le y0
      have hc2 : y = (Y : Int) := hc1.trans hY
      subst hc2
      rw [hY, Int.toNat_natCast] at HS
      rw [hY] at y1
      clear hc1
      have hYm : Y < m := by omega
      have HI5 := Lib.hid (HI.out.grown hg1 (fun k hk => by cases hk; omega))
      clear p0 p1 p2 p3 pf pl0 r0 r1 r2 r3 rf rl0
      obtain ⟨v5, hp5⟩ := HI5.out.hp
      obtain ⟨p0, p1, p2, p3, pf, pl0⟩ := cells4 hp5
      have HEX := Lib.hid (fun w => HEL.out X w hX)
      have hB5 := hg1.size
      clear hY y0 hwc hp5
      go_wp2_with fail
      refine (HEX.out _).mono ?_
      rintro e w6 ⟨rfl, hb6⟩
      have hz6 := hb6.size
      have hI6 := HI5.out.below hb6 (Nat.le_refl _)
      obtain ⟨e0, e1, e2, e3, e4, e5, e6⟩ := hI6.he Y hYm
      have fr := hI6.hk.free
      have HI7 := Lib.hid (hI6.step hYm (X : Int))
      have HRG7 := Lib.hid (ranges_same (w' := put7i w6 gB Y (m : Int) (X : Int)) hrg1 ((put7i_other _ _ _ _ _ _ (by omega)).trans (hb6.block _ (by omega))) ((put7i_other _ _ _ _ _ _ (by omega)).trans (hb6.block _ (by omega))))
      generalize c Y = z at *
      clear hI6 hb6 p0 p1 p2 p3 pf pl0
      go_wp2
      go_roundw
      case rel => exact ⟨_, cnt1, _, HRG7.out, HI7.out, HS.out⟩
      case measure => rw [HRG7.out.left_eq, hrg.left_eq]; exact hlt
end Go.Proofs.Ytimpgbifnijkkaa
