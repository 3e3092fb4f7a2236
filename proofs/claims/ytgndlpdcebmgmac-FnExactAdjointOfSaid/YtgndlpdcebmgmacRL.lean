/- AdjointOf, of both, by contracts; the walk of its law. -/
import Derived.Test.YtgndlpdcebmgmacRF
import Derived.Test.YtgndlpdcebmgmacFB
namespace Go.Proofs.Ytgndlpdcebmgmac
open Go.RowKit
/-- The place of the coefficient i in the adjoint. -/
def ajp (k i : Nat) : Nat := (k - i) % k
/-- The coefficients of the adjoint after n of them. -/
def ajc (q : Int) (k : Nat) (c : Nat → Int) : Nat → (Nat → Int)
  | 0 => fun _ => 0
  | i + 1 => upd (ajc q k c i) (ajp k i) (fro q (c i) (ajp k i))
theorem ajc_el {q : Int} {k : Nat} {c : Nat → Int} (h : isSz q = true) (hc : ∀ i, El q (c i)) : ∀ n i, El q (ajc q k c n i) := by
  intro n
  induction n with
  | zero => intro i; exact El.zero h
  | succ n ih =>
    intro i
    show El q (upd (ajc q k c n) (ajp k n) (fro q (c n) (ajp k n)) i)
    unfold upd
    split
    · exact fro_bd q _ h (hc n).1 (hc n).2 _
    · exact ih i
theorem ajp_lt {k i : Nat} (hk : 0 < k) : ajp k i < k := Nat.mod_lt _ hk
theorem ajp_rem {k i : Nat} (hi : i < k) : ((k : Int) - (i : Int)).tmod (k : Int) = ((ajp k i : Nat) : Int) := by
  rw [show (k : Int) - (i : Int) = ((k - i : Nat) : Int) by omega]
  rfl
/-- The list that AdjointOf returns. -/
def ajl (m : Nat) (f : Nat → Int) : List Int := adl m (ajc m (plN m) (acf m f) (plN m))
/-- The memory of adjoint between two rounds. -/
structure TAJ (w0 wr : World) (m k : Nat) (c f : Nat → Int) (v : Value) (gT gC : Nat) : Prop where
  hp : wr.heap[w0.heap.size]? = some (pblk (m : Int) v)
  hr : wr.heap[w0.heap.size + 1]? = some pzblk
  hk : Blk wr gT k
  he : Els wr gT (m : Int) f k
  hc : Els wr gC (m : Int) c k
  bel : Below w0.heap.size w0 wr
  lt : w0.heap.size + 1 < gT
  ne : gT < gC
  lC : gC < wr.heap.size
theorem TAJ.below {w0 wr w' : World} {m k : Nat} {c f : Nat → Int} {v : Value} {gT gC B : Nat} (h : TAJ w0 wr m k c f v gT gC) (hb : Below B wr w') (hB : wr.heap.size ≤ B) : TAJ w0 w' m k c f v gT gC := by
  have hl := h.lt
  have hn := h.ne
  have hlc := h.lC
  have hs := hb.size
  have hs0 := h.bel.size
  exact ⟨(hb.block _ (by omega)).trans h.hp, (hb.block _ (by omega)).trans h.hr, h.hk.below hb (by omega), h.he.below hb (by omega), h.hc.below hb (by omega), h.bel.trans (hb.mono (by omega)), hl, hn, by omega⟩
theorem TAJ.step {w0 wr : World} {m k : Nat} {c f : Nat → Int} {v : Value} {gT gC i : Nat} (h : TAJ w0 wr m k c f v gT gC) (hi : i < k) (x : Int) : TAJ w0 (put7i wr gT i m x) m k c (upd f i x) v gT gC := by
  have hl := h.lt
  have hn := h.ne
  have hle := h.lC
  obtain ⟨he, hk⟩ := Els.put x h.hk hi (Nat.le_refl _) h.he
  exact ⟨(put7i_other _ _ _ _ _ _ (by omega)).trans h.hp, (put7i_other _ _ _ _ _ _ (by omega)).trans h.hr, hk, he, h.hc.same (put7i_other _ _ _ _ _ _ (show gC ≠ gT by omega)), put7i_below h.bel _ (by omega) _ _ _, hl, hn, by simp; omega⟩
set_option maxRecDepth 100000 in
set_option maxHeartbeats 4000000 in
/-- impl.poly.adjoint. -/
theorem adjointE (m n : Nat) (v : Value) (f : Nat → Int) (w : World) (h : isSz (m : Int) = true) (hv : Se w v (m : Int) f n) (hf : ∀ i, El (m : Int) (f i)) (hn : n ≤ m) (zf : ∀ i, n ≤ i → f i = 0) :
    Calls Try.prog 46 #[polyE (m : Int) v] w fun e w' => ∃ g' cap, e = .returned (polyE (m : Int) (.slice (some ⟨g', 0, none⟩) (redn m (plc m (ajc m (plN m) (acf m f) (plN m)) (plN m)) m) cap)) ∧ g' < w'.heap.size ∧ Els w' g' (m : Int) (redR m (plc m (ajc m (plN m) (acf m f) (plN m)) (plN m)) m) (redn m (plc m (ajc m (plN m) (acf m f) (plN m)) (plN m)) m) ∧ Below w.heap.size w w' := by
  have hq := isSz_le (m : Int) h
  have hkb := plN_bd (m : Int) h
  have hm : pl (m : Int) = ((plN (m : Int) : Nat) : Int) := rfl
  have HZ := Lib.hid (fun w => by
    have := zerosE (m : Int) (plN m) w h (by omega)
    rw [← hm] at this
    exact this)
  have HAC := Lib.hid (fun w' (hb : Below w.heap.size w w') => additiveCoefficientsE m n v f w' h (hv.below hb (Nat.le_refl _)) hn zf)
  have hce : ∀ i, El (m : Int) (acf m f i) := fun i => hf _
  have HCE := Lib.hid hce
  have HE := Lib.hid (fun i w => conjugatesE (m : Int) (acf m f i) w h (hce i).1 (hce i).2)
  have HAW := Lib.hid (fun v w (hs : Se w v (m : Int) (ajc m (plN m) (acf m f) (plN m)) (plN m)) => additiveWithE m v (ajc m (plN m) (acf m f) (plN m)) w h hs (fun i _ => ajc_el h hce _ i))
  have HST : Hid (∀ i, upd (ajc m (plN m) (acf m f) i) (ajp (plN m) i) (fro m (acf m f i) (ajp (plN m) i)) = ajc m (plN m) (acf m f) (i + 1)) := Lib.hid fun _ => rfl
  have HP0 : Hid ((fun _ => (0 : Int)) = ajc m (plN m) (acf m f) 0) := Lib.hid rfl
  have HREM : Hid (∀ i, i < plN (m : Int) → (pl (m : Int) - (i : Int)).tmod (pl (m : Int)) = ((ajp (plN (m : Int)) i : Nat) : Int)) := Lib.hid fun i hi => by rw [hm]; exact ajp_rem hi
  obtain ⟨g0, cap0, rfl, hg0, he0⟩ := hv
  have HM := Lib.hid hm
  clear h he0 zf hf hce hm
  generalize ajc m (plN m) (acf m f) = T at *
  generalize acf m f = C at *
  generalize hkk : plN (m : Int) = k at *
  clear hkk
  generalize redn m (plc m (T k) k) m = K at *
  generalize redR m (plc m (T k) k) m = R at *
  go_enter Try.func46, Try.ntmps46
  go_wp2_with fail
  refine (HZ.out _).mono ?_
  rintro e w1 ⟨gT, rfl, hgT, hk1, hz1, hb1⟩
  simp at hgT
  have hgl1 := hk1.lt
  have HK1 := Lib.hid hk1; clear hk1
  have HZ1 : Hid (Els w1 gT (m : Int) (T 0) k) := Lib.hid (by rw [← HP0.out]; exact hz1)
  clear hz1
  obtain ⟨t0, t1⟩ := two w (pblk (m : Int) (.slice (some ⟨g0, 0, none⟩) n cap0)) pzblk
  have hb1' : Below (w.heap.size + 2) ((w.alloc (pblk (m : Int) (.slice (some ⟨g0, 0, none⟩) n cap0))).alloc pzblk) w1 := by (repeat' (first | (with_reducible assumption) | (with_reducible exact Below.refl _ _) | (with_reducible refine below_drewN ?_ _) | (with_reducible refine Below.drew ?_) | (with_reducible refine Below.alloc ?_ ?_ _) | (with_reducible refine Below.setCell ?_ ?_ _) | (with_reducible refine Below.trans ?_ (Below.mono (by assumption) ?_)) | (with_reducible exact Nat.le_refl _) | (with_reducible assumption) | omega | (simp; omega) | (simp; done)))
  have HPB1 := Lib.hid ((hb1'.block _ (by omega)).trans t0)
  have HRB1 := Lib.hid ((hb1'.block _ (by omega)).trans t1)
  obtain ⟨x0, x1, x2, x3, _⟩ := cells4 HPB1.out
  have HB1 : Hid (Below w.heap.size w w1) := Lib.hid (by (repeat' (first | (with_reducible assumption) | (with_reducible exact Below.refl _ _) | (with_reducible refine below_drewN ?_ _) | (with_reducible refine Below.drew ?_) | (with_reducible refine Below.alloc ?_ ?_ _) | (with_reducible refine Below.setCell ?_ ?_ _) | (with_reducible refine Below.trans ?_ (Below.mono (by assumption) ?_)) | (with_reducible exact Nat.le_refl _) | (with_reducible assumption) | omega | (simp; omega) | (simp; done))))
  have hz1 := HB1.out.size
  clear hb1 hb1' t0 t1
  go_wp2_with fail
  refine (HAC.out _ HB1.out).mono ?_
  rintro e w2 ⟨gC, rfl, hgC, hkC, heC, hb2⟩
  have htp : TAJ w w2 m k C (T 0) (.slice (some ⟨g0, 0, none⟩) n cap0) gT gC := ⟨(hb2.block _ (by omega)).trans HPB1.out, (hb2.block _ (by omega)).trans HRB1.out, HK1.out.below hb2 hgl1, HZ1.out.below hb2 hgl1, heC, HB1.out.trans (hb2.mono hz1), by omega, by omega, hkC.lt⟩
  have HTP := Lib.hid htp
  clear htp heC hkC hb2 x0 x1 x2 x3
  go_wp2_with fail
  go_loopw [18] (fun vi wr => ∃ i : Nat, i ≤ k ∧ vi = .int .i64 i ∧ TAJ w wr m k C (T i) (.slice (some ⟨g0, 0, none⟩) n cap0) gT gC) (fun vi _ => k - (intOf vi).toNat)
  case atStart => exact ⟨0, by omega, rfl, HTP.out⟩
  case round =>
    obtain ⟨i, hik, rfl, ht⟩ := hrel
    have hgl := ht.hk.lt
    have hlt0 := ht.lt
    have hltC := ht.lC
    have hneC := ht.ne
    by_cases hlt : i < k
    · obtain ⟨c0, c1, c2, c3, c4, c5, c6⟩ := ht.hc i hlt
      have hJ : ajp k i < k := ajp_lt (by omega)
      have hrem := HREM.out i hlt
      have hw1 : IntKind.i64.wrap (pl (m : Int) - (i : Int)) = pl (m : Int) - (i : Int) := IntWalk.i64_in _ (by rw [HM.out]; omega)
      have hne0 : ¬ pl (m : Int) = 0 := by rw [HM.out]; omega
      have HE' := Lib.hid (fun w => HE.out i w)
      have HST' := Lib.hid (HST.out i)
      have HT := Lib.hid ht; clear ht
      generalize ajp k i = J at *
      obtain ⟨F, hF⟩ : ∃ F : Nat → Int, fro m (C i) = F := ⟨_, rfl⟩
      rw [hF] at HE' HST'
      clear hF
      generalize C i = x at *
      go_wp2_with fail
      refine (HE'.out _).mono ?_
      rintro e w3 ⟨g3, cp3, rfl, hg3, hk3, he3, hb3⟩
      have hbb : Below wr.heap.size wr w3 := by (repeat' (first | (with_reducible assumption) | (with_reducible exact Below.refl _ _) | (with_reducible refine below_drewN ?_ _) | (with_reducible refine Below.drew ?_) | (with_reducible refine Below.alloc ?_ ?_ _) | (with_reducible refine Below.setCell ?_ ?_ _) | (with_reducible refine Below.trans ?_ (Below.mono (by assumption) ?_)) | (with_reducible exact Nat.le_refl _) | (with_reducible assumption) | omega | (simp; omega) | (simp; done)))
      have HT3 := Lib.hid (HT.out.below hbb (Nat.le_refl _))
      obtain ⟨y0, y1, y2, y3, y4, y5, y6⟩ := he3 J hJ
      have hg3l := hk3.lt
      have hz3 := hbb.size
      simp at hg3
      obtain ⟨z0, d0⟩ := HT3.out.hk.at (J * 7) (by omega)
      obtain ⟨z1, d1⟩ := HT3.out.hk.at (J * 7 + 1) (by omega)
      obtain ⟨z2, d2⟩ := HT3.out.hk.at (J * 7 + 2) (by omega)
      obtain ⟨z3, d3⟩ := HT3.out.hk.at (J * 7 + 3) (by omega)
      obtain ⟨z4, d4⟩ := HT3.out.hk.at (J * 7 + 4) (by omega)
      obtain ⟨z5, d5⟩ := HT3.out.hk.at (J * 7 + 5) (by omega)
      obtain ⟨z6, d6⟩ := HT3.out.hk.at (J * 7 + 6) (by omega)
      have fr := HT3.out.hk.free
      have hgl3 := HT3.out.hk.lt
      have HTT : Hid (TAJ w (put7i w3 gT J m (F J)) m k C (T (i + 1)) (.slice (some ⟨g0, 0, none⟩) n cap0) gT gC) := Lib.hid (by rw [← HST'.out]; exact HT3.out.step hJ (F J))
      clear HT3 HST' hbb hk3 he3 hb3
      generalize F J = y at *
      go_wp2
      go_roundw
      case rel => exact ⟨i + 1, by omega, by go_num, HTT.out⟩
      case measure => (simp [intOf]; try omega)
    · obtain rfl : k = i := by omega
      obtain ⟨x0, x1, x2, x3, _⟩ := cells4 ht.hp
      have HSE : Hid (Se wr (.slice (some ⟨gT, 0, none⟩) k k) (m : Int) (T k) k) := Lib.hid ⟨gT, k, rfl, hgl, ht.he⟩
      have HTT := Lib.hid ht; clear ht
      have hs0 := HTT.out.bel.size
      have hpk : pl (m : Int) = (k : Int) := HM.out
      clear hpk
      go_wp2_with fail
      refine (HAW.out _ _ HSE.out).mono ?_
      rintro e w6 ⟨g8, cap8, rfl, hg8, he8, hb6⟩
      have hr6 := (hb6.block _ (by omega)).trans HTT.out.hr
      have HBW : Hid (Below w.heap.size w w6) := Lib.hid (HTT.out.bel.trans (hb6.mono HTT.out.bel.size))
      have HE8 := Lib.hid he8; clear he8 hb6
      obtain ⟨r0, r1, r2, r3, rf, rl0⟩ := cells4 hr6
      go_wp2_with fail
      refine bodyPost_ret (v := polyE (m : Int) (.slice (some ⟨g8, 0, none⟩) K cap8)) (by simp [results, Try.results46, go_sem, r0, r1, r2, r3]) rfl ⟨g8, cap8, rfl, by simp; omega, ?_, ?_⟩
      · exact HE8.out.over hr6 (by omega) (fun k hk => put4_other _ _ _ _ _ hk)
      · have hb0 := HBW.out
        (repeat' (first | (with_reducible assumption) | (with_reducible exact Below.refl _ _) | (with_reducible refine below_drewN ?_ _) | (with_reducible refine Below.drew ?_) | (with_reducible refine Below.alloc ?_ ?_ _) | (with_reducible refine Below.setCell ?_ ?_ _) | (with_reducible refine Below.trans ?_ (Below.mono (by assumption) ?_)) | (with_reducible exact Nat.le_refl _) | (with_reducible assumption) | omega | (simp; omega) | (simp; done)))
theorem spec_AdjointOf_no (q : Int) (v : Value) (l : List Int) (w : World) (hv : Sl w v l) (hl : l.length ≤ 1048576) (hg : addL q l = false) :
    Calls Try.prog 23 #[.int .i64 q, v] w fun e w' => e = .returned (.tuple #[.slice none 0 0, .bool false]) ∧ Below w.heap.size w w' := by
  obtain ⟨_, HP⟩ : ∃ _ : Unit, Hid (Calls Try.prog 25 #[.int .i64 q, v] w fun e w' => ∃ v', e = .returned (.tuple #[v', .bool false]) ∧ Below w.heap.size w w') := ⟨(), Lib.hid (adTable_off q v l w hv hl hg)⟩
  clear hg hv hl
  go_enter Try.func23, Try.ntmps23
  go_wp2_with fail
  refine HP.out.mono ?_
  rintro e w1 ⟨v', rfl, hb1⟩
  go_wp2
  go_ret2
  exact ⟨rfl, hb1⟩
theorem impl_AdjointOf_no (q : Int) (v : Value) (l : List Int) (w : World) (hv : Sl w v l) (hl : l.length ≤ 1048576) (hg : addL q l = false) :
    Calls Try.prog 24 #[.int .i64 q, v] w fun e w' => e = .returned (.tuple #[.slice none 0 0, .bool false]) ∧ Below w.heap.size w w' := by
  have HP := Lib.hid (validAdditive_no q v l w hv hl hg)
  clear hg hv hl
  go_enter Try.func24, Try.ntmps24
  go_wp2_with fail
  refine HP.out.mono ?_
  rintro e w1 ⟨rfl, hb1⟩
  have hz_hb1 := hb1.size; (try simp at hz_hb1)
  have HB1 := Lib.hid hb1; clear hb1
  go_wp2_with fail
  go_ret2
  have hb1 := HB1.out
  exact ⟨rfl, by (repeat' (first | (with_reducible assumption) | (with_reducible exact Below.refl _ _) | (with_reducible refine below_drewN ?_ _) | (with_reducible refine Below.drew ?_) | (with_reducible refine Below.alloc ?_ ?_ _) | (with_reducible refine Below.setCell ?_ ?_ _) | (with_reducible refine Below.trans ?_ (Below.mono (by assumption) ?_)) | (with_reducible exact Nat.le_refl _) | (with_reducible assumption) | omega | (simp; omega) | (simp; done)))⟩
set_option maxRecDepth 100000 in
set_option maxHeartbeats 4000000 in
theorem impl_AdjointOf_yes (m : Nat) (v : Value) (l : List Int) (w : World) (h : isSz (m : Int) = true) (hv : Sl w v l) (hg : good (m : Int) l = true) (ha : adC m (fun i => l.getD i 0) 0 l.length = true) :
    Calls Try.prog 24 #[.int .i64 m, v] w fun e w' => ∃ v', e = .returned (.tuple #[v', .bool true]) ∧ Row w' w.heap.size v' (ajl m (fun i => l.getD i 0)) ∧ Below w.heap.size w w' := by
  have hq := isSz_le (m : Int) h
  have hlen := (good_parts hg).1
  have hel := all_el h (good_parts hg).2
  have HP := Lib.hid (validAdditive_yes m v l w h hv hg ha)
  have HJ := Lib.hid (fun v w (hs : Se w v (m : Int) (fun i => l.getD i 0) l.length) => adjointE m l.length v (fun i => l.getD i 0) w h hs hel (by omega) getD_past)
  have hce : ∀ i, El (m : Int) (acf m (fun i => l.getD i 0) i) := fun i => hel _
  have hpe := plc_el h (plN m) (c := ajc m (plN m) (acf m (fun i => l.getD i 0)) (plN m)) (fun i _ => ajc_el h hce _ i)
  have HK : Hid (redn m (plc m (ajc m (plN m) (acf m (fun i => l.getD i 0)) (plN m)) (plN m)) m ≤ m) := Lib.hid (sn_le _ _)
  have HN := Lib.hid (fun v w' (hs : Se w' v (m : Int) (redR m (plc m (ajc m (plN m) (acf m (fun i => l.getD i 0)) (plN m)) (plN m)) m) (redn m (plc m (ajc m (plN m) (acf m (fun i => l.getD i 0)) (plN m)) (plN m)) m)) => by
    have := numbersE (m : Int) v _ _ w' h hs (fun i _ => redR_el m _ h hpe _ _) (by have := HK.out; omega)
    rw [red_whole h hpe] at this
    exact this)
  unfold ajl adl
  clear hv hg h ha hel hce hpe
  generalize fl (plc m (ajc m (plN m) (acf m (fun i => l.getD i 0)) (plN m)) (plN m)) (sn (plc m (ajc m (plN m) (acf m (fun i => l.getD i 0)) (plN m)) (plN m)) m) = r at *
  generalize redR m (plc m (ajc m (plN m) (acf m (fun i => l.getD i 0)) (plN m)) (plN m)) m = R at *
  generalize redn m (plc m (ajc m (plN m) (acf m (fun i => l.getD i 0)) (plN m)) (plN m)) m = K at *
  generalize (fun i => l.getD i 0) = f at *
  generalize l.length = n at *
  go_enter Try.func24, Try.ntmps24
  go_wp2_with fail
  refine HP.out.mono ?_
  rintro e w1 ⟨g, rfl, hg, hgl, he, hb1⟩
  have HE1 := Lib.hid he
  clear he
  have hz_hb1 := hb1.size; (try simp at hz_hb1)
  have HB1 := Lib.hid hb1; clear hb1
  go_wp2_with fail
  refine (HJ.out (.slice (some ⟨g, 0, none⟩) n n) _ ⟨g, n, rfl, by simp; omega, HE1.out.below (B := w1.heap.size) (by (repeat' (first | (with_reducible assumption) | (with_reducible exact Below.refl _ _) | (with_reducible refine below_drewN ?_ _) | (with_reducible refine Below.drew ?_) | (with_reducible refine Below.alloc ?_ ?_ _) | (with_reducible refine Below.setCell ?_ ?_ _) | (with_reducible refine Below.trans ?_ (Below.mono (by assumption) ?_)) | (with_reducible exact Nat.le_refl _) | (with_reducible assumption) | omega | (simp; omega) | (simp; done)))) hgl⟩).mono ?_
  rintro e w2 ⟨g2, cp2, rfl, hg2, he2, hb2⟩
  have HSE : Hid (Se w2 (.slice (some ⟨g2, 0, none⟩) K cp2) (m : Int) R K) := Lib.hid ⟨g2, cp2, rfl, hg2, he2⟩
  clear he2
  have hz_hb2 := hb2.size; (try simp at hz_hb2)
  have HB2 := Lib.hid hb2; clear hb2
  go_wp2_with fail
  refine (HN.out _ _ HSE.out).mono ?_
  rintro e w3 ⟨v3, rfl, hr3, hb3⟩
  have HR3 := Lib.hid hr3; clear hr3
  have HB3 := Lib.hid hb3; clear hb3
  go_wp2
  go_ret2
  have hb1 := HB1.out
  have hb2 := HB2.out
  have hb3 := HB3.out
  exact ⟨_, rfl, HR3.out.mono (by omega), by (repeat' (first | (with_reducible assumption) | (with_reducible exact Below.refl _ _) | (with_reducible refine below_drewN ?_ _) | (with_reducible refine Below.drew ?_) | (with_reducible refine Below.alloc ?_ ?_ _) | (with_reducible refine Below.setCell ?_ ?_ _) | (with_reducible refine Below.trans ?_ (Below.mono (by assumption) ?_)) | (with_reducible exact Nat.le_refl _) | (with_reducible assumption) | omega | (simp; omega) | (simp; done)))⟩
set_option maxRecDepth 100000 in
set_option maxHeartbeats 4000000 in
theorem spec_AdjointOf_yes (m : Nat) (v : Value) (l : List Int) (w : World) (h : isSz (m : Int) = true) (hv : Sl w v l) (hg : good (m : Int) l = true) (ha : adC m (fun i => l.getD i 0) 0 l.length = true) :
    Calls Try.prog 23 #[.int .i64 m, v] w fun e w' => ∃ v', e = .returned (.tuple #[v', .bool true]) ∧ Row w' w.heap.size v' (ajl m (fun i => l.getD i 0)) ∧ Below w.heap.size w w' := by
  obtain ⟨i0, hi, iz0, iz1, iz2⟩ := info_parts Try.infoI
  have hq := isSz_le (m : Int) h
  have hkb := plN_bd (m : Int) h
  have hp := pr_bd (m : Int) h
  have hlen := (good_parts hg).1
  have hel := all_el h (good_parts hg).2
  have hpl : pl (m : Int) = ((plN (m : Int) : Nat) : Int) := rfl
  have HP := Lib.hid (adTable_on m v l w h hv hg ha)
  have HPR := Lib.hid (fun w => fdPrime_any (m : Int) w h)
  have HA := Lib.hid (fun w' (hb : Below w.heap.size w w') => adCoefficients_any m v l w' h (hv.below hb (Nat.le_refl _)) (by omega))
  have hce : ∀ i, El (m : Int) (acf m (fun i => l.getD i 0) i) := fun i => hel _
  have HPW := Lib.hid (fun i j w => by
    have hb := fro_bd (m : Int) (acf m (fun i => l.getD i 0) i) h (hce i).1 (hce i).2 j
    exact fdPower_any (m : Int) (fro m (acf m (fun i => l.getD i 0) i) j) (pr m) w h hb.1 hb.2 (by omega) (by omega))
  have HFR : Hid (∀ (a : Int) j, pw m (fro m a j) (pr m).toNat = fro m a (j + 1)) := Lib.hid fun _ _ => rfl
  have HF0 : Hid (∀ a : Int, a = fro m a 0) := Lib.hid fun _ => rfl
  have HST : Hid (∀ i, upd (ajc m (plN m) (acf m (fun i => l.getD i 0)) i) (ajp (plN m) i) (fro m (acf m (fun i => l.getD i 0) i) (ajp (plN m) i)) = ajc m (plN m) (acf m (fun i => l.getD i 0)) (i + 1)) := Lib.hid fun _ => rfl
  have HP0 : Hid (ajc m (plN m) (acf m (fun i => l.getD i 0)) 0 = fun _ => 0) := Lib.hid rfl
  have HO := Lib.hid (fun v w' (hs : Sl w' v (fl (ajc m (plN m) (acf m (fun i => l.getD i 0)) (plN m)) (plN m))) => adOf_any m v (ajc m (plN m) (acf m (fun i => l.getD i 0)) (plN m)) w' h hs)
  unfold ajl
  clear hg hv h ha hel hce
  generalize adl m (ajc m (plN m) (acf m (fun i => l.getD i 0)) (plN m)) = r at *
  generalize ajc m (plN m) (acf m (fun i => l.getD i 0)) = T at *
  generalize acf m (fun i => l.getD i 0) = C at *
  generalize plN (m : Int) = k at *
  go_enter Try.func23, Try.ntmps23
  go_wp2_with fail
  refine HP.out.mono ?_
  rintro e w1 ⟨v1, rfl, hr1, hb1⟩
  have hz1 := hb1.size
  have HB1 := Lib.hid hb1; clear hb1 hr1
  go_wp2_with fail
  refine (HPR.out _).mono ?_
  rintro e _ ⟨rfl, rfl⟩
  rw [hpl]
  clear hpl
  go_wp2_with (at_make; refine wpList_make_full _ rfl _ _ 22 rfl w1.heap.size 3 i0 (.int .i64 0) 1 Try.underlying22 hi iz0 iz1 .i64 .i64 _ _ k rfl rfl rfl rfl ?c3 ?c4 ?c5 ?_)
  case c3 => rw [iz2]; omega
  case c4 => unfold maxLen; omega
  case c5 => omega
  intro w2 hown hgrow
  have HR2 : Hid (Row w2 w1.heap.size (.slice (some ⟨w1.heap.size, 0, none⟩) k k) (fl (T 0) k)) := Lib.hid (by
    have := Row.madeF (fun _ => 0) hown
    rw [HP0.out]
    rw [part0_zz] at this
    exact this)
  have HB2 := Lib.hid ((Below.refl w1.heap.size w1).grown hgrow (Nat.le_refl _) (fun k hk => by cases hk))
  clear hown hgrow
  have HBW2 : Hid (Below w.heap.size w w2) := Lib.hid (HB1.out.trans (HB2.out.mono hz1))
  go_wp2_with fail
  refine (HA.out _ HBW2.out).mono ?_
  rintro e w3 ⟨v3, rfl, hr3, hb3⟩
  obtain ⟨g3, cp3, hv3, hgB3, hgl3⟩ := hr3.form (by rw [fl_len]; omega)
  rw [fl_len] at hv3
  subst hv3
  have HC3 : Hid (∀ i, i < k → w3.cell? ⟨g3, i, none⟩ = some (.int .i64 (C i))) := Lib.hid fun i hi => by
    have := Row.cell (l := fl C k) (by rw [fl_len]; exact hr3) i (by rw [fl_len]; exact hi)
    rwa [fl_get _ _ _ hi] at this
  have HR3 := Lib.hid (HR2.out.below hb3)
  have HB3 : Hid (Below w1.heap.size w1 w3) := Lib.hid (HB2.out.trans (hb3.mono HB2.out.size))
  have hgT : w1.heap.size < w2.heap.size := (HR2.out.lt w1.heap.size rfl).2
  have hz3 := hb3.size
  clear hr3 hb3
  go_wp2_with fail
  go_loopw [34] (fun vi wr => ∃ i : Nat, i ≤ k ∧ vi = .int .i64 i ∧ Row wr w1.heap.size (.slice (some ⟨w1.heap.size, 0, none⟩) k k) (fl (T i) k) ∧ (∀ i, i < k → wr.cell? ⟨g3, i, none⟩ = some (.int .i64 (C i))) ∧ w3.heap.size ≤ wr.heap.size ∧ Below w1.heap.size w1 wr) (fun vi _ => k - (intOf vi).toNat)
  case atStart => exact ⟨0, Nat.zero_le _, rfl, HR3.out, HC3.out, Nat.le_refl _, HB3.out⟩
  case round =>
    obtain ⟨i, hik, rfl, hr, hcr, hsz, hbw⟩ := hrel
    have HR := Lib.hid hr; clear hr
    have HBW := Lib.hid hbw; clear hbw
    have HCR := Lib.hid hcr; clear hcr
    by_cases hlt : i < k
    · have hc := HCR.out i hlt
      have hgl : g3 < wr.heap.size := by omega
      have hJ : ajp k i < k := ajp_lt (by omega)
      have hrem := ajp_rem hlt
      have hw1 : IntKind.i64.wrap ((k : Int) - (i : Int)) = (k : Int) - (i : Int) := IntWalk.i64_in _ (by omega)
      have hne0 : ¬ (k : Int) = 0 := by omega
      have HST' := Lib.hid (HST.out i)
      have HPW' := Lib.hid (fun j w => HPW.out i j w)
      have HF0' := Lib.hid (HF0.out (C i))
      have HFR' := Lib.hid (fun j => HFR.out (C i) j)
      generalize hJJ : ajp k i = J at *
      have HCC : Hid (∀ W, Below wr.heap.size wr W → ∀ u, ∀ i, i < k → (W.setCell ⟨w1.heap.size, J, none⟩ u).cell? ⟨g3, i, none⟩ = some (.int .i64 (C i))) := Lib.hid fun W hW u i hi => by
        rw [World.cell?_setCell_other _ _ _ _ (by first | (simp; done) | (simp; omega))]
        exact (hW.cell (p := ⟨g3, i, none⟩) hgl).trans (HCR.out i hi)
      obtain ⟨F, hF⟩ : ∃ F : Nat → Int, fro m (C i) = F := ⟨_, rfl⟩
      rw [hF] at HPW' HST' HF0' HFR'
      clear hF
      generalize C i = x at *
      go_wp2_with fail
      go_loopw [13, 14] (fun vc vj ws => ∃ j : Nat, j ≤ J ∧ vj = .int .i64 j ∧ vc = .int .i64 (F j) ∧ Below wr.heap.size wr ws) (fun _ vj _ => J - (intOf vj).toNat)
      case atStart => exact ⟨0, Nat.zero_le _, rfl, by rw [← HF0'.out], Below.refl _ _⟩
      case round =>
        obtain ⟨j, hj, rfl, rfl, hbs⟩ := hrel
        have HBS := Lib.hid hbs; clear hbs
        by_cases hlj : j < J
        · have HPJ := Lib.hid (fun w => HPW'.out j w)
          have hfr := HFR'.out j
          rw [hfr] at HPJ
          clear hfr
          generalize hy : F j = y at *
          have HY : Hid True := Lib.hid trivial
          clear HY hy
          go_wp2_with fail
          refine (HPJ.out _).mono ?_
          rintro e w5 ⟨rfl, hb5⟩
          have HB5 := Lib.hid (HBS.out.trans (hb5.mono HBS.out.size))
          clear hb5
          go_wp2
          go_roundw
          case rel => exact ⟨j + 1, by omega, by go_num, rfl, HB5.out⟩
          case measure => simp [intOf]; omega
        · obtain rfl : J = j := by omega
          have HR5 := Lib.hid (HR.out.below HBS.out)
          have e2 := Row.cell (l := fl (T i) k) (cap := k) (by rw [fl_len]; exact HR5.out) J (by rw [fl_len]; exact hJ)
          rw [fl_get _ _ _ hJ] at e2
          have f2 := HR5.out.frozen (by rw [fl_len]) J
          have HSTO := Lib.hid (HR5.out.store (by rw [fl_len]) J (F J))
          have hsz5 := HBS.out.size
          have HB5 : Hid (Below w1.heap.size w1 _) := Lib.hid (HBW.out.trans (HBS.out.mono HBW.out.size))
          have hl1 : w1.heap.size < wr.heap.size := by omega
          generalize T i J = z at *
          obtain ⟨y, hy⟩ : ∃ y, F J = y := ⟨_, rfl⟩
          rw [hy] at HSTO HST' ⊢
          clear hy
          go_wp2
          go_roundw
          case rel =>
            refine ⟨i + 1, by omega, by go_num, ?_, HCC.out _ HBS.out _, by simp; omega, HB5.out.setCell (Nat.le_refl _) _⟩
            rw [← HST'.out, ← fl_set]
            exact HSTO.out
          case measure => simp [intOf]; omega
    · obtain rfl : k = i := by omega
      go_wp2_with fail
      refine (HO.out _ _ HR.out.sl).mono ?_
      rintro e w6 ⟨v6, rfl, hr6, hb6⟩
      have HR6 := Lib.hid hr6; clear hr6
      have HB6 : Hid (Below w1.heap.size w1 w6) := Lib.hid (HBW.out.trans (hb6.mono HBW.out.size))
      have hzz := HBW.out.size
      clear hb6
      go_wp2
      go_ret2
      exact ⟨_, rfl, HR6.out.mono (by omega), HB1.out.trans (HB6.out.mono hz1)⟩
theorem key_AdjointOf (q : Int) (l_f : List Int) (b_f : l_f.length ≤ 1048576) : ∃ (r : List Int) (o : Bool), r.length ≤ 1048576 ∧ (∀ (w : World) (v_f : Value) (_ : Sl w v_f l_f), Calls Try.prog 23 #[.int .i64 q, v_f] w fun e w' => ∃ v, e = .returned (.tuple #[v, .bool o]) ∧ Row w' w.heap.size v r ∧ Below w.heap.size w w') ∧
      (∀ (w : World) (v_f : Value) (_ : Sl w v_f l_f), Calls Try.prog 24 #[.int .i64 q, v_f] w fun e w' => ∃ v, e = .returned (.tuple #[v, .bool o]) ∧ Row w' w.heap.size v r ∧ Below w.heap.size w w') := by
  cases h : addL q l_f with
  | false => exact ⟨[], false, by simp, fun w v hv => (spec_AdjointOf_no q v l_f w hv b_f h).mono (by rintro e w' ⟨rfl, hb⟩; exact ⟨_, rfl, Row.nil _ _, hb⟩), fun w v hv => (impl_AdjointOf_no q v l_f w hv b_f h).mono (by rintro e w' ⟨rfl, hb⟩; exact ⟨_, rfl, Row.nil _ _, hb⟩)⟩
  | true =>
    obtain ⟨m, rfl, h1, h2, h3⟩ := addL_parts h
    have hq := isSz_le _ h1
    exact ⟨_, true, Nat.le_trans (adl_len _ _) (by omega), fun w v hv => spec_AdjointOf_yes m v l_f w h1 hv h2 h3, fun w v hv => impl_AdjointOf_yes m v l_f w h1 hv h2 h3⟩
set_option maxRecDepth 100000 in
set_option maxHeartbeats 4000000 in
/-- laws.FnExactAdjointOf. -/
theorem walk_FnExactAdjointOf (q : Int) (a_f : Option Addr) (n_f c_f : Nat) (z_f : List Int) (w : World) (_h_q : (Lit.int .i64 q).wf = true) (h_f : IsRow .i64 w a_f n_f c_f z_f) :
    Calls Try.prog 8 #[.int .i64 q, .slice a_f n_f c_f] w fun e w' => e = .returned (.bool true) ∧ Below w.heap.size w w' := by
  clear _h_q
  obtain ⟨hs_f, hl_f, _⟩ := h_f.sl
  generalize z_f.take n_f = l_f at *
  clear h_f
  subst hl_f
  by_cases b_f : l_f.length ≤ 1048576
  rotate_left
  · have hn_f : (1048576 : Int) < (l_f.length : Int) := by omega
    go_enter Try.func8, Try.ntmps8
    go_wp2
    go_ret
    exact ⟨rfl, Below.refl _ _⟩
  have hn_f : ¬ (1048576 : Int) < (l_f.length : Int) := by omega
  obtain ⟨r, o, hr, k1, k2⟩ := key_AdjointOf q l_f b_f
  have K1 := Lib.hid k1; clear k1
  have K2 := Lib.hid k2; clear k2
  have HS_f := Lib.hid hs_f; clear hs_f
  have HB0 : Hid (Below w.heap.size w w) := Lib.hid (Below.refl _ _)
  go_enter Try.func8, Try.ntmps8
  go_wp2_with fail
  refine (toIntS_any _ l_f _ (HS_f.out.below HB0.out (Nat.le_refl _)) b_f).mono ?_
  rintro e w1 ⟨v_s_f, rfl, hrw1, hbw1⟩
  have hzw1 : w.heap.size ≤ w1.heap.size := hbw1.size
  have HBw1 : Hid (Below w.heap.size w w1) := Lib.hid (HB0.out.trans (hbw1.mono HB0.out.size))
  have hww1 := HBw1.out.size
  clear hbw1 HB0
  have R_s_f_w1 := Lib.hid hrw1; clear hrw1
  have lt_s_f : Hid (∀ g, v_s_f.ownBlock = some g → w.heap.size ≤ g ∧ g < w1.heap.size) := Lib.hid R_s_f_w1.out.lt
  go_wp2_with fail
  refine (K1.out _ v_s_f R_s_f_w1.out.sl).mono ?_
  rintro e w2 ⟨v_sp, rfl, hrw2, hbw2⟩
  have hzw2 : w1.heap.size ≤ w2.heap.size := hbw2.size
  have R_s_f_w2 := Lib.hid (R_s_f_w1.out.below hbw2)
  clear R_s_f_w1
  have HBw2 : Hid (Below w.heap.size w w2) := Lib.hid (HBw1.out.trans (hbw2.mono HBw1.out.size))
  have hww2 := HBw2.out.size
  clear hbw2 HBw1
  have R_sp_w2 := Lib.hid hrw2; clear hrw2
  have lt_sp : Hid (∀ g, v_sp.ownBlock = some g → w1.heap.size ≤ g ∧ g < w2.heap.size) := Lib.hid R_sp_w2.out.lt
  clear R_s_f_w2 lt_s_f
  go_wp2_with fail
  refine (toIntS_any _ l_f _ (HS_f.out.below HBw2.out (Nat.le_refl _)) b_f).mono ?_
  rintro e w3 ⟨v_x_f, rfl, hrw3, hbw3⟩
  have hzw3 : w2.heap.size ≤ w3.heap.size := hbw3.size
  have R_sp_w3 := Lib.hid (R_sp_w2.out.below hbw3)
  clear R_sp_w2
  have HBw3 : Hid (Below w.heap.size w w3) := Lib.hid (HBw2.out.trans (hbw3.mono HBw2.out.size))
  have hww3 := HBw3.out.size
  clear hbw3 HBw2
  have R_x_f_w3 := Lib.hid hrw3; clear hrw3
  have lt_x_f : Hid (∀ g, v_x_f.ownBlock = some g → w2.heap.size ≤ g ∧ g < w3.heap.size) := Lib.hid R_x_f_w3.out.lt
  go_wp2_with fail
  refine (K2.out _ v_x_f R_x_f_w3.out.sl).mono ?_
  rintro e w4 ⟨v_im, rfl, hrw4, hbw4⟩
  have hzw4 : w3.heap.size ≤ w4.heap.size := hbw4.size
  have R_sp_w4 := Lib.hid (R_sp_w3.out.below hbw4)
  clear R_sp_w3
  have R_x_f_w4 := Lib.hid (R_x_f_w3.out.below hbw4)
  clear R_x_f_w3
  have HBw4 : Hid (Below w.heap.size w w4) := Lib.hid (HBw3.out.trans (hbw4.mono HBw3.out.size))
  have hww4 := HBw4.out.size
  clear hbw4 HBw3
  have R_im_w4 := Lib.hid hrw4; clear hrw4
  have lt_im : Hid (∀ g, v_im.ownBlock = some g → w3.heap.size ≤ g ∧ g < w4.heap.size) := Lib.hid R_im_w4.out.lt
  go_wp2_with fail
  refine (eq_same v_im v_sp r _ _ _ R_im_w4.out R_sp_w4.out (by omega)).mono ?_
  rintro e w5 ⟨rfl, hbw5⟩
  have hzw5 : w4.heap.size ≤ w5.heap.size := hbw5.size
  have R_sp_w5 := Lib.hid (R_sp_w4.out.below hbw5)
  clear R_sp_w4
  have R_x_f_w5 := Lib.hid (R_x_f_w4.out.below hbw5)
  clear R_x_f_w4
  have R_im_w5 := Lib.hid (R_im_w4.out.below hbw5)
  clear R_im_w4
  have HBw5 : Hid (Below w.heap.size w w5) := Lib.hid (HBw4.out.trans (hbw5.mono HBw4.out.size))
  have hww5 := HBw5.out.size
  clear hbw5 HBw4
  go_wp2_with fail
  refine (toIntS_any _ l_f _ (HS_f.out.below HBw5.out (Nat.le_refl _)) b_f).mono ?_
  rintro e w6 ⟨v_y_f, rfl, hrw6, hbw6⟩
  have hzw6 : w5.heap.size ≤ w6.heap.size := hbw6.size
  have R_sp_w6 := Lib.hid (R_sp_w5.out.below hbw6)
  clear R_sp_w5
  have R_x_f_w6 := Lib.hid (R_x_f_w5.out.below hbw6)
  clear R_x_f_w5
  have R_im_w6 := Lib.hid (R_im_w5.out.below hbw6)
  clear R_im_w5
  have HBw6 : Hid (Below w.heap.size w w6) := Lib.hid (HBw5.out.trans (hbw6.mono HBw5.out.size))
  have hww6 := HBw6.out.size
  clear hbw6 HBw5
  have R_y_f_w6 := Lib.hid hrw6; clear hrw6
  have lt_y_f : Hid (∀ g, v_y_f.ownBlock = some g → w5.heap.size ≤ g ∧ g < w6.heap.size) := Lib.hid R_y_f_w6.out.lt
  go_wp2_with fail
  refine (eq_same v_x_f v_y_f l_f _ _ _ R_x_f_w6.out R_y_f_w6.out (by omega)).mono ?_
  rintro e w7 ⟨rfl, hbw7⟩
  have hzw7 : w6.heap.size ≤ w7.heap.size := hbw7.size
  have R_sp_w7 := Lib.hid (R_sp_w6.out.below hbw7)
  clear R_sp_w6
  have R_x_f_w7 := Lib.hid (R_x_f_w6.out.below hbw7)
  clear R_x_f_w6
  have R_im_w7 := Lib.hid (R_im_w6.out.below hbw7)
  clear R_im_w6
  have R_y_f_w7 := Lib.hid (R_y_f_w6.out.below hbw7)
  clear R_y_f_w6
  have HBw7 : Hid (Below w.heap.size w w7) := Lib.hid (HBw6.out.trans (hbw7.mono HBw6.out.size))
  have hww7 := HBw7.out.size
  clear hbw7 HBw6
  clear R_y_f_w7 lt_y_f
  go_wp2_with fail
  refine (mark_any v_x_f l_f _ (1) _ R_x_f_w7.out (by omega) (by omega) (by omega)).mono ?_
  rintro e w8 ⟨rfl, hrw8, hgw8⟩
  have hzw8 : w7.heap.size ≤ w8.heap.size := hgw8.size
  have R_sp_w8 := Lib.hid (R_sp_w7.out.keep (w' := w8) fun g hg => hgw8.block g (R_sp_w7.out.lt g hg).2 fun e => by have h1 := lt_sp.out g hg; have h2 := lt_x_f.out g e.symm; omega)
  clear R_sp_w7
  have R_im_w8 := Lib.hid (R_im_w7.out.keep (w' := w8) fun g hg => hgw8.block g (R_im_w7.out.lt g hg).2 fun e => by have h1 := lt_im.out g hg; have h2 := lt_x_f.out g e.symm; omega)
  clear R_im_w7
  have HBw8 : Hid (Below w.heap.size w w8) := Lib.hid (Below.grown HBw7.out hgw8 (by omega) (fun g e => by have h2 := lt_x_f.out g e; omega))
  have hww8 := HBw8.out.size
  have R_x_f_w8 := Lib.hid hrw8
  clear hrw8 hgw8 HBw7 R_x_f_w7
  clear R_x_f_w8 lt_x_f
  have hpos : ¬ (1 + (l_f.length : Int)) < (0 : Int) := by omega
  go_wp2_with fail
  refine (eq_same v_im v_sp r _ _ _ R_im_w8.out R_sp_w8.out (by omega)).mono ?_
  rintro e w9 ⟨rfl, hbw9⟩
  have hzw9 : w8.heap.size ≤ w9.heap.size := hbw9.size
  have R_sp_w9 := Lib.hid (R_sp_w8.out.below hbw9)
  clear R_sp_w8
  have R_im_w9 := Lib.hid (R_im_w8.out.below hbw9)
  clear R_im_w8
  have HBw9 : Hid (Below w.heap.size w w9) := Lib.hid (HBw8.out.trans (hbw9.mono HBw8.out.size))
  have hww9 := HBw9.out.size
  clear hbw9 HBw8
  go_wp2_with fail
  refine (mark_any v_im r _ (1) _ R_im_w9.out (by omega) (by omega) (by omega)).mono ?_
  rintro e w10 ⟨rfl, hrw10, hgw10⟩
  have hzw10 : w9.heap.size ≤ w10.heap.size := hgw10.size
  have R_sp_w10 := Lib.hid (R_sp_w9.out.keep (w' := w10) fun g hg => hgw10.block g (R_sp_w9.out.lt g hg).2 fun e => by have h1 := lt_sp.out g hg; have h2 := lt_im.out g e.symm; omega)
  clear R_sp_w9
  have HBw10 : Hid (Below w.heap.size w w10) := Lib.hid (Below.grown HBw9.out hgw10 (by omega) (fun g e => by have h2 := lt_im.out g e; omega))
  have hww10 := HBw10.out.size
  have R_im_w10 := Lib.hid hrw10
  clear hrw10 hgw10 HBw9 R_im_w9
  go_wp2_with fail
  refine (held_any v_im r.length _ (1) _ R_im_w10.out (by omega) (by omega) (by omega)).mono ?_
  rintro e wx1 ⟨rfl, rfl⟩
  go_wp2_with fail
  refine (toIntS_any _ l_f _ (HS_f.out.below HBw10.out (Nat.le_refl _)) b_f).mono ?_
  rintro e w11 ⟨v_t_f, rfl, hrw11, hbw11⟩
  have hzw11 : w10.heap.size ≤ w11.heap.size := hbw11.size
  have R_sp_w11 := Lib.hid (R_sp_w10.out.below hbw11)
  clear R_sp_w10
  have R_im_w11 := Lib.hid (R_im_w10.out.below hbw11)
  clear R_im_w10
  have HBw11 : Hid (Below w.heap.size w w11) := Lib.hid (HBw10.out.trans (hbw11.mono HBw10.out.size))
  have hww11 := HBw11.out.size
  clear hbw11 HBw10
  have R_t_f_w11 := Lib.hid hrw11; clear hrw11
  have lt_t_f : Hid (∀ g, v_t_f.ownBlock = some g → w10.heap.size ≤ g ∧ g < w11.heap.size) := Lib.hid R_t_f_w11.out.lt
  go_wp2_with fail
  refine (K2.out _ v_t_f R_t_f_w11.out.sl).mono ?_
  rintro e w12 ⟨v_im2, rfl, hrw12, hbw12⟩
  have hzw12 : w11.heap.size ≤ w12.heap.size := hbw12.size
  have R_sp_w12 := Lib.hid (R_sp_w11.out.below hbw12)
  clear R_sp_w11
  have R_im_w12 := Lib.hid (R_im_w11.out.below hbw12)
  clear R_im_w11
  have R_t_f_w12 := Lib.hid (R_t_f_w11.out.below hbw12)
  clear R_t_f_w11
  have HBw12 : Hid (Below w.heap.size w w12) := Lib.hid (HBw11.out.trans (hbw12.mono HBw11.out.size))
  have hww12 := HBw12.out.size
  clear hbw12 HBw11
  have R_im2_w12 := Lib.hid hrw12; clear hrw12
  have lt_im2 : Hid (∀ g, v_im2.ownBlock = some g → w11.heap.size ≤ g ∧ g < w12.heap.size) := Lib.hid R_im2_w12.out.lt
  clear R_t_f_w12 lt_t_f
  go_wp2_with fail
  refine (eq_same v_im2 v_sp r _ _ _ R_im2_w12.out R_sp_w12.out (by omega)).mono ?_
  rintro e w13 ⟨rfl, hbw13⟩
  have hzw13 : w12.heap.size ≤ w13.heap.size := hbw13.size
  have R_sp_w13 := Lib.hid (R_sp_w12.out.below hbw13)
  clear R_sp_w12
  have R_im_w13 := Lib.hid (R_im_w12.out.below hbw13)
  clear R_im_w12
  have R_im2_w13 := Lib.hid (R_im2_w12.out.below hbw13)
  clear R_im2_w12
  have HBw13 : Hid (Below w.heap.size w w13) := Lib.hid (HBw12.out.trans (hbw13.mono HBw12.out.size))
  have hww13 := HBw13.out.size
  clear hbw13 HBw12
  go_wp2_with fail
  refine (held_any v_im r.length _ (1) _ R_im_w13.out (by omega) (by omega) (by omega)).mono ?_
  rintro e wx2 ⟨rfl, rfl⟩
  go_wp2
  go_ret
  exact ⟨rfl, HBw13.out⟩
end Go.Proofs.Ytgndlpdcebmgmac
