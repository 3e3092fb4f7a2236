/- Additive polynomials by their coefficients: impl.field.additiveWith, impl.poly.additiveCoefficients, spec.adOf, spec.adCoefficients, by contracts. -/
import Derived.Test.YtgndlpdcebmgmacRB
import Derived.Test.YtgndlpdcebmgmacRC
import Derived.Test.YtgndlpdcebmgmacKN
import Derived.Test.YtgndlpdcebmgmacKM
namespace Go.Proofs.Ytgndlpdcebmgmac
open Go.RowKit
/-- The terms after n coefficients. -/
def plc (q : Int) (c : Nat → Int) : Nat → (Nat → Int)
  | 0 => fun _ => 0
  | i + 1 => upd (plc q c i) (pp q i) (c i)
theorem plc_el {q : Int} {c : Nat → Int} (h : isSz q = true) : ∀ n, (∀ i, i < n → El q (c i)) → ∀ i, El q (plc q c n i) := by
  intro n
  induction n with
  | zero => intro _ i; exact El.zero h
  | succ n ih =>
    intro hc i
    show El q (upd (plc q c n) (pp q n) (c n) i)
    unfold upd
    split
    · exact hc n (by omega)
    · exact ih (fun i hi => hc i (by omega)) i
theorem plc_congr {q : Int} {c d : Nat → Int} : ∀ n, (∀ i, i < n → c i = d i) → plc q c n = plc q d n := by
  intro n
  induction n with
  | zero => intro _; rfl
  | succ n ih =>
    intro h
    show upd (plc q c n) (pp q n) (c n) = upd (plc q d n) (pp q n) (d n)
    rw [ih fun i hi => h i (by omega), h n (by omega)]
/-- The list of an additive polynomial with the coefficients c. -/
def adl (m : Nat) (c : Nat → Int) : List Int := fl (plc m c (plN m)) (sn (plc m c (plN m)) m)
theorem adl_len (m : Nat) (c : Nat → Int) : (adl m c).length ≤ m := by
  unfold adl
  rw [fl_len]
  exact sn_le _ _
theorem adl_congr {m : Nat} {c d : Nat → Int} (h : ∀ i, i < plN m → c i = d i) : adl m c = adl m d := by
  unfold adl
  rw [plc_congr _ h]
theorem red_whole {m : Nat} {f : Nat → Int} (h : isSz (m : Int) = true) (hf : ∀ i, El (m : Int) (f i)) : fl (redR m f m) (redn m f m) = fl f (sn f m) := by
  have e : ∀ j, j < m → redR m f m j = f j := fun j hj => by rw [redR_small m f h hf m (Nat.le_refl _) j, if_pos hj]
  unfold redn
  rw [sn_congr e]
  exact fl_congr fun i hi => e i (by have := sn_le f m; omega)
theorem part0_zz (m : Nat) : fl (part0 (fun _ => 0) 0) m = fl (fun _ => 0) m := fl_congr fun i _ => by simp [part0]
/-- The coefficients at powers of the prime. -/
def acf (q : Int) (f : Nat → Int) : Nat → Int := fun i => f (pp q i)
/-- The memory of additiveWith between two rounds. -/
structure TAW (w0 wr : World) (m k : Nat) (f : Nat → Int) (gT gP : Nat) : Prop where
  hf : wr.heap[w0.heap.size]? = some (ffblk (m : Int))
  hr : wr.heap[w0.heap.size + 1]? = some pzblk
  hk : Blk wr gT m
  he : Els wr gT (m : Int) f m
  hp : ∀ i, i < k → wr.cell? ⟨gP, i, none⟩ = some (.int .i64 (ppf m i))
  bel : Below w0.heap.size w0 wr
  lt : w0.heap.size + 1 < gT
  ne : gT < gP
  lP : gP < wr.heap.size
theorem TAW.step {w0 wr : World} {m k : Nat} {f : Nat → Int} {gT gP i : Nat} (h : TAW w0 wr m k f gT gP) (hi : i < m) (x : Int) : TAW w0 (put7i wr gT i m x) m k (upd f i x) gT gP := by
  have hl := h.lt
  have hn := h.ne
  have hle := h.lP
  obtain ⟨he, hk⟩ := Els.put x h.hk hi (Nat.le_refl _) h.he
  refine ⟨(put7i_other _ _ _ _ _ _ (by omega)).trans h.hf, (put7i_other _ _ _ _ _ _ (by omega)).trans h.hr, hk, he, fun j hj => ?_, put7i_below h.bel _ (by omega) _ _ _, hl, hn, by simp; omega⟩
  rw [← h.hp j hj]
  exact World.cell?_of_block (a := ⟨gP, j, none⟩) (put7i_other _ _ _ _ _ _ (show gP ≠ gT by omega))
set_option maxRecDepth 100000 in
set_option maxHeartbeats 4000000 in
/-- impl.field.additiveWith. -/
theorem additiveWithE (m : Nat) (v : Value) (c : Nat → Int) (w : World) (h : isSz (m : Int) = true) (hv : Se w v (m : Int) c (plN m)) (hc : ∀ i, i < plN m → El (m : Int) (c i)) :
    Calls Try.prog 76 #[fdE (m : Int), v] w fun e w' => ∃ g' cap, e = .returned (polyE (m : Int) (.slice (some ⟨g', 0, none⟩) (redn m (plc m c (plN m)) m) cap)) ∧ g' < w'.heap.size ∧ Els w' g' (m : Int) (redR m (plc m c (plN m)) m) (redn m (plc m c (plN m)) m) ∧ Below w.heap.size w w' := by
  have hq := isSz_le (m : Int) h
  have HZ := Lib.hid (fun w => zerosE (m : Int) m w h (by omega))
  have HP := Lib.hid (fun w => primePowersE (m : Int) w h)
  have HPL := Lib.hid (pp_lt (m : Int) h)
  have HPE := Lib.hid (plc_el h (plN m) hc)
  have HRD := Lib.hid (fun v' w' (hs : Se w' v' (m : Int) (plc m c (plN m)) m) => reducedE m v' (plc m c (plN m)) m w' h hs HPE.out (by omega))
  have hkb := plN_bd (m : Int) h
  have HST : Hid (∀ i, upd (plc m c i) (pp m i) (c i) = plc m c (i + 1)) := Lib.hid fun _ => rfl
  have HP0 : Hid ((fun _ => (0 : Int)) = plc m c 0) := Lib.hid rfl
  obtain ⟨g0, cap0, rfl, hg0, he0⟩ := hv
  have HE0 := Lib.hid (fun wr (hb : Below w.heap.size w wr) => he0.below hb hg0)
  clear h he0 HPE hc
  generalize plc m c = T at *
  generalize plN (m : Int) = k at *
  generalize redn m (T k) m = K at *
  generalize redR m (T k) m = R at *
  go_enter Try.func76, Try.ntmps76
  go_wp2_with fail
  refine (HZ.out _).mono ?_
  rintro e w1 ⟨gT, rfl, hgT, hk1, hz1, hb1⟩
  simp at hgT
  have hgl1 := hk1.lt
  have HK1 := Lib.hid hk1; clear hk1
  have HZ1 : Hid (Els w1 gT (m : Int) (T 0) m) := Lib.hid (by rw [← HP0.out]; exact hz1)
  clear hz1
  obtain ⟨hc1, hf1⟩ := bcell hb1; have hz1 := hb1.size; (try simp at hz1); have HB1 := Lib.hid hb1; clear hb1
  have l1 : w.heap.size < w1.heap.size := by omega
  go_wp2_with fail
  refine (HP.out _).mono ?_
  rintro e w2 ⟨gP, rfl, hgP, hgPl, hrP, hb2⟩
  have htp : TAW w w2 m k (T 0) gT gP := by
    have hb1 := HB1.out
    have hb' : Below (w.heap.size + 2) ((w.alloc (ffblk (m : Int))).alloc pzblk) w2 := by (repeat' (first | (with_reducible assumption) | (with_reducible exact Below.refl _ _) | (with_reducible refine below_drewN ?_ _) | (with_reducible refine Below.drew ?_) | (with_reducible refine Below.alloc ?_ ?_ _) | (with_reducible refine Below.setCell ?_ ?_ _) | (with_reducible refine Below.trans ?_ (Below.mono (by assumption) ?_)) | (with_reducible exact Nat.le_refl _) | (with_reducible assumption) | omega | (simp; omega) | (simp; done)))
    obtain ⟨t0, t1⟩ := two w (ffblk (m : Int)) pzblk
    exact ⟨(hb'.block _ (by omega)).trans t0, (hb'.block _ (by omega)).trans t1, HK1.out.below hb2 hgl1, HZ1.out.below hb2 hgl1, fun i hi => by
      have := Row.cell (l := fl (ppf (m : Int)) k) (cap := k) (by rw [fl_len]; exact hrP) i (by rw [fl_len]; exact hi)
      rwa [fl_get _ _ _ hi] at this, by (repeat' (first | (with_reducible assumption) | (with_reducible exact Below.refl _ _) | (with_reducible refine below_drewN ?_ _) | (with_reducible refine Below.drew ?_) | (with_reducible refine Below.alloc ?_ ?_ _) | (with_reducible refine Below.setCell ?_ ?_ _) | (with_reducible refine Below.trans ?_ (Below.mono (by assumption) ?_)) | (with_reducible exact Nat.le_refl _) | (with_reducible assumption) | omega | (simp; omega) | (simp; done))), by omega, by omega, hgPl⟩
  have HTP := Lib.hid htp
  clear htp hrP hc1 hf1 hb2
  obtain ⟨f0, f1, f2, ff, fl0⟩ := cells3' HTP.out.hf
  go_wp2_with fail
  clear f0 f1 f2 ff fl0
  go_loopw [15] (fun vi wr => ∃ i : Nat, i ≤ k ∧ vi = .int .i64 i ∧ TAW w wr m k (T i) gT gP) (fun vi _ => k - (intOf vi).toNat)
  case atStart => exact ⟨0, by omega, rfl, HTP.out⟩
  case round =>
    obtain ⟨i, hik, rfl, ht⟩ := hrel
    have hgl := ht.hk.lt
    have hlt0 := ht.lt
    have hltP := ht.lP
    by_cases hlt : i < k
    · have hcp := ht.hp i hlt
      obtain ⟨c0, c1, c2, c3, c4, c5, c6⟩ := (HE0.out _ ht.bel) i hlt
      have hg0l : g0 < wr.heap.size := by have := ht.bel.size; omega
      have hPm : pp m i < m := by have := (HPL.out i hlt).2; omega
      have hI : ppf (m : Int) i = ((pp m i : Nat) : Int) := rfl
      rw [hI] at hcp
      clear hI
      have HST' := Lib.hid (HST.out i)
      generalize pp m i = P at *
      obtain ⟨x0, d0⟩ := ht.hk.at (P * 7) (by omega)
      obtain ⟨x1, d1⟩ := ht.hk.at (P * 7 + 1) (by omega)
      obtain ⟨x2, d2⟩ := ht.hk.at (P * 7 + 2) (by omega)
      obtain ⟨x3, d3⟩ := ht.hk.at (P * 7 + 3) (by omega)
      obtain ⟨x4, d4⟩ := ht.hk.at (P * 7 + 4) (by omega)
      obtain ⟨x5, d5⟩ := ht.hk.at (P * 7 + 5) (by omega)
      obtain ⟨x6, d6⟩ := ht.hk.at (P * 7 + 6) (by omega)
      have fr := ht.hk.free
      have HTT : Hid (TAW w (put7i wr gT P m (c i)) m k (T (i + 1)) gT gP) := Lib.hid (by rw [← HST'.out]; exact ht.step hPm (c i))
      clear ht HST'
      generalize c i = x at *
      go_wp2
      go_roundw
      case rel => exact ⟨i + 1, by omega, by go_num, HTT.out⟩
      case measure => (simp [intOf]; try omega)
    · obtain rfl : k = i := by omega
      obtain ⟨f0, f1, f2, ff, fl0⟩ := cells3' ht.hf
      have HSE : Hid (Se wr (.slice (some ⟨gT, 0, none⟩) m m) (m : Int) (T k) m) := Lib.hid ⟨gT, m, rfl, hgl, ht.he⟩
      have HTT := Lib.hid ht; clear ht
      go_wp2_with fail
      refine (HRD.out _ _ HSE.out).mono ?_
      rintro e w6 ⟨g8, cap8, rfl, hg8, he8, hb6⟩
      have hr6 := (hb6.block _ (by omega)).trans HTT.out.hr
      have HBW : Hid (Below w.heap.size w w6) := Lib.hid (HTT.out.bel.trans (hb6.mono HTT.out.bel.size))
      have HE8 := Lib.hid he8; clear he8 hb6
      obtain ⟨r0, r1, r2, r3, rf, rl0⟩ := cells4 hr6
      go_wp2_with fail
      refine bodyPost_ret (v := polyE (m : Int) (.slice (some ⟨g8, 0, none⟩) K cap8)) (by simp [results, Try.results76, go_sem, r0, r1, r2, r3]) rfl ⟨g8, cap8, rfl, by simp; omega, ?_, ?_⟩
      · exact HE8.out.over hr6 (by omega) (fun k hk => put4_other _ _ _ _ _ hk)
      · have hb0 := HBW.out
        (repeat' (first | (with_reducible assumption) | (with_reducible exact Below.refl _ _) | (with_reducible refine below_drewN ?_ _) | (with_reducible refine Below.drew ?_) | (with_reducible refine Below.alloc ?_ ?_ _) | (with_reducible refine Below.setCell ?_ ?_ _) | (with_reducible refine Below.trans ?_ (Below.mono (by assumption) ?_)) | (with_reducible exact Nat.le_refl _) | (with_reducible assumption) | omega | (simp; omega) | (simp; done)))
set_option maxRecDepth 100000 in
set_option maxHeartbeats 4000000 in
/-- spec.adOf. -/
theorem adOf_any (m : Nat) (v : Value) (c : Nat → Int) (w : World) (h : isSz (m : Int) = true) (hv : Sl w v (fl c (plN m))) :
    Calls Try.prog 45 #[.int .i64 m, v] w fun e w' => ∃ v', e = .returned v' ∧ Row w' w.heap.size v' (adl m c) ∧ Below w.heap.size w w' := by
  obtain ⟨i0, hi, iz0, iz1, iz2⟩ := info_parts Try.infoI
  have hq := isSz_le (m : Int) h
  have hkb := plN_bd (m : Int) h
  have HPR := Lib.hid (fun w => fdPrime_any (m : Int) w h)
  have HS := Lib.hid (ppf_succ h)
  have HB := Lib.hid (ppf_bd h)
  have HPL := Lib.hid (pp_lt (m : Int) h)
  have hp := pr_bd (m : Int) h
  have HST : Hid (∀ i, upd (plc m c i) (pp m i) (c i) = plc m c (i + 1)) := Lib.hid fun _ => rfl
  have HP0 : Hid (plc m c 0 = fun _ => 0) := Lib.hid rfl
  have hp1 : ppf (m : Int) 0 = 1 := by show ((1 : Nat) : Int) = 1; rfl
  obtain ⟨b, off, cap, rfl, hb, hcell⟩ := hv.open (n := plN m) (by rw [fl_len]) (by omega)
  have HC : Hid (∀ w', Below w.heap.size w w' → ∀ j, j < plN m → w'.cell? ⟨b, off + j, none⟩ = some (.int .i64 (c j))) := Lib.hid fun w' hbw j hj => by
    rw [hbw.cell (p := ⟨b, off + j, none⟩) hb, hcell j hj, fl_get _ _ _ hj]
  unfold adl
  have HSH := Lib.hid (fun gg w' (hr : Row w' w.heap.size (.slice (some ⟨gg, 0, none⟩) m m) (fl (plc m c (plN m)) m)) (hg : gg < w'.heap.size) => plShort_any gg m m w.heap.size (plc m c (plN m)) w' hr hg (by omega))
  clear h hv hcell
  generalize plc m c = T at *
  generalize plN (m : Int) = k at *
  go_enter Try.func45, Try.ntmps45
  go_wp2_with fail
  refine (HPR.out _).mono ?_
  rintro e _ ⟨rfl, rfl⟩
  go_wp2_with (at_make; refine wpList_make_full _ rfl _ _ 22 rfl w.heap.size 3 i0 (.int .i64 0) 1 Try.underlying22 hi iz0 iz1 .i64 .i64 _ _ m rfl rfl rfl rfl ?c3 ?c4 ?c5 ?_)
  case c3 => rw [iz2]; omega
  case c4 => unfold maxLen; omega
  case c5 => omega
  intro w1 hown hgrow
  have HR : Hid (Row w1 w.heap.size (.slice (some ⟨w.heap.size, 0, none⟩) m m) (fl (T 0) m)) := Lib.hid (by
    have := Row.madeF (fun _ => 0) hown
    rw [HP0.out]
    rw [part0_zz] at this
    exact this)
  have HB1 := Lib.hid ((Below.refl w.heap.size w).grown hgrow (Nat.le_refl _) (fun k hk => by cases hk))
  have hgl : w.heap.size < w1.heap.size := (HR.out.lt w.heap.size rfl).2
  clear hown hgrow
  go_wp2_with fail
  go_loopw [8, 20] (fun vp vi wr => ∃ i : Nat, i ≤ k ∧ vi = .int .i64 i ∧ vp = .int .i64 (ppf m i) ∧ Row wr w.heap.size (.slice (some ⟨w.heap.size, 0, none⟩) m m) (fl (T i) m) ∧ w.heap.size < wr.heap.size ∧ Below w.heap.size w wr) (fun _ vi _ => k - (intOf vi).toNat)
  case atStart => exact ⟨0, Nat.zero_le _, rfl, by rw [hp1], HR.out, hgl, HB1.out⟩
  case round =>
    obtain ⟨i, hik, rfl, rfl, hr, hgl', hbw⟩ := hrel
    by_cases hlt : i < k
    · have hcell := HC.out _ hbw i hlt
      have hbl : b < wr.heap.size := by have := hbw.size; omega
      have hPm : pp m i < m := by have := (HPL.out i hlt).2; omega
      have e2 := Row.cell (l := fl (T i) m) (cap := m) (by rw [fl_len]; exact hr) (pp m i) (by rw [fl_len]; exact hPm)
      rw [fl_get _ _ _ hPm] at e2
      have f2 := hr.frozen (by rw [fl_len]) (pp m i)
      have HSTO := Lib.hid (hr.store (by rw [fl_len]) (pp m i) (c i))
      have HUP := Lib.hid (HST.out i)
      have b2 := HB.out (i + 1) (by omega)
      have s1 := HS.out i
      rw [show ppf (m : Int) i = ((pp m i : Nat) : Int) from rfl] at s1 ⊢
      have HBW := Lib.hid hbw
      clear hr hbw
      obtain ⟨y, hy⟩ : ∃ y, ppf (m : Int) (i + 1) = y := ⟨_, rfl⟩
      rw [hy] at b2 s1
      have HY := Lib.hid hy
      clear hy
      generalize pp m i = P at *
      generalize T i P = z at *
      generalize c i = x at *
      have h1 : IntKind.i64.wrap y = y := IntWalk.i64_in _ (by omega)
      go_wp2
      go_roundw
      case rel =>
        refine ⟨i + 1, by omega, by go_num, ?_, ?_, by simp; omega, HBW.out.setCell (Nat.le_refl _) _⟩
        · rw [HY.out]
        · rw [← HUP.out, ← fl_set]
          exact HSTO.out
      case measure => (simp [intOf]; try omega)
    · obtain rfl : k = i := by omega
      have HRr := Lib.hid hr
      have HBW := Lib.hid hbw
      clear hr hbw
      go_wp2_with fail
      refine (HSH.out _ _ HRr.out hgl').mono ?_
      rintro e w4 ⟨v4, rfl, hr4, hb4⟩
      have HR4 := Lib.hid hr4
      have HB4 : Hid (Below w.heap.size w w4) := Lib.hid (HBW.out.trans (hb4.mono HBW.out.size))
      have hzz := HBW.out.size
      clear hr4 hb4
      go_wp2
      go_ret
      exact ⟨_, rfl, HR4.out.mono hzz, HB4.out⟩
set_option maxRecDepth 100000 in
set_option maxHeartbeats 4000000 in
/-- spec.adCoefficients. -/
theorem adCoefficients_any (m : Nat) (v : Value) (l : List Int) (w : World) (h : isSz (m : Int) = true) (hv : Sl w v l) (hl : l.length ≤ 1000) :
    Calls Try.prog 43 #[.int .i64 m, v] w fun e w' => ∃ v', e = .returned v' ∧ Row w' w.heap.size v' (fl (acf m (fun i => l.getD i 0)) (plN m)) ∧ Below w.heap.size w w' := by
  obtain ⟨i0, hi, iz0, iz1, iz2⟩ := info_parts Try.infoI
  have hq := isSz_le (m : Int) h
  have hkb := plN_bd (m : Int) h
  have HPR := Lib.hid (fun w => fdPrime_any (m : Int) w h)
  have HS := Lib.hid (ppf_succ h)
  have HB := Lib.hid (ppf_bd h)
  have hp := pr_bd (m : Int) h
  have hp1 : ppf (m : Int) 0 = 1 := by show ((1 : Nat) : Int) = 1; rfl
  obtain ⟨a, cap, hva, hcell⟩ : ∃ a cap, v = .slice a l.length cap ∧ (0 < l.length → ∃ b off, a = some ⟨b, off, none⟩ ∧ b < w.heap.size ∧ ∀ j, j < l.length → w.cell? ⟨b, off + j, none⟩ = some (.int .i64 (l.getD j 0))) := by
    by_cases h0 : 0 < l.length
    · obtain ⟨b, off, cap, rfl, hb, hc⟩ := hv.open rfl h0
      exact ⟨_, cap, rfl, fun _ => ⟨b, off, rfl, hb, hc⟩⟩
    · obtain ⟨a, cap, e⟩ := hv.form
      exact ⟨a, cap, e, fun h => absurd h h0⟩
  subst hva
  have HC := Lib.hid hcell
  have HF : Hid (∀ i, acf m (fun i => l.getD i 0) i = l.getD (pp m i) 0) := Lib.hid fun _ => rfl
  have HPAST : Hid (∀ i, l.length ≤ i → l.getD i 0 = 0) := Lib.hid fun i hi => by simp [List.getD, hi]
  have HSUC := Lib.hid (fl_succ (acf m (fun i => l.getD i 0)))
  have hpl : pl (m : Int) = ((plN (m : Int) : Nat) : Int) := rfl
  clear h hv hcell
  generalize acf m (fun i => l.getD i 0) = F at *
  generalize (fun i => l.getD i 0) = ff at *
  generalize l.length = n at *
  generalize plN (m : Int) = k at *
  go_enter Try.func43, Try.ntmps43
  go_wp2_with fail
  refine (HPR.out _).mono ?_
  rintro e _ ⟨rfl, rfl⟩
  rw [hpl]
  clear hpl
  go_wp2_with fail
  go_loopw [7, 8, 9] (fun vo vp vi wr => ∃ i : Nat, i ≤ k ∧ vi = .int .i64 i ∧ vp = .int .i64 (ppf m i) ∧ Row wr w.heap.size vo (fl F i) ∧ Below w.heap.size w wr) (fun _ _ vi _ => k - (intOf vi).toNat)
  case atStart => exact ⟨0, Nat.zero_le _, rfl, by rw [hp1], Row.nil _ _, Below.refl _ _⟩
  case round =>
    obtain ⟨i, hik, rfl, rfl, hr, hbw⟩ := hrel
    have HR := Lib.hid hr; clear hr
    have HBW := Lib.hid hbw; clear hbw
    have hz := HBW.out.size
    by_cases hlt : i < k
    · have b1 := HB.out i hik
      have b2 := HB.out (i + 1) (by omega)
      have s1 := HS.out i
      have HFi := Lib.hid (HF.out i)
      have HS1 := Lib.hid (HSUC.out i)
      rw [show ppf (m : Int) i = ((pp m i : Nat) : Int) from rfl] at b1 s1 ⊢
      have HPP := Lib.hid (HPAST.out (pp m i))
      have HCC : Hid (pp m i < n → ∃ b off, a = some ⟨b, off, none⟩ ∧ b < wr.heap.size ∧ wr.cell? ⟨b, off + pp m i, none⟩ = some (.int .i64 (l.getD (pp m i) 0))) := Lib.hid fun hh => by
        obtain ⟨b, off, e, hb, hc⟩ := HC.out (by omega)
        exact ⟨b, off, e, by omega, (HBW.out.cell (p := ⟨b, off + pp m i, none⟩) hb).trans (hc _ hh)⟩
      obtain ⟨y, hy⟩ : ∃ y, ppf (m : Int) (i + 1) = y := ⟨_, rfl⟩
      rw [hy] at b2 s1
      have HY := Lib.hid hy
      clear hy
      generalize pp m i = P at *
      have h1 : IntKind.i64.wrap y = y := IntWalk.i64_in _ (by omega)
      obtain ⟨z, hz'⟩ : ∃ z, F i = z := ⟨_, rfl⟩
      rw [hz'] at HFi HS1
      clear hz'
      by_cases hPn : P < n
      · obtain ⟨b, off, rfl, hb, hcl⟩ := HCC.out hPn
        rw [← HFi.out] at hcl
        clear HFi HPP HCC
        go_wp2_with (at_builtin; refine wpList_append_own _ rfl _ _ 22 rfl w.heap.size 3 i0 (.int .i64 0) 1 8 Try.underlying22 hi iz0 iz1 iz2 rfl (by decide) _ _ _ rfl (World.ownsRow.alloc HR.out _) ⟨wr.heap.size, 0, none⟩ 1 1 [.int .i64 z] rfl rfl ?c1 ?c2 ?c3 ?c4 ?c5 ?_)
        case c1 => exact cell_one_new _ _ _
        case c2 => first | rfl | (intro u hu; simp at hu; subst hu; rfl)
        case c3 => rw [fl_len]; unfold maxLen; omega
        case c4 => rw [fl_len]; omega
        case c5 => first | omega | (simp; omega)
        intro v' w6 hown hgrow _
        have HR6 := Lib.hid (Row.appended hown)
        have hb6 : Below w.heap.size w (wr.alloc (.cells #[.int .i64 z] 3)) := HBW.out.alloc (by omega) _
        have HB6 := Lib.hid (hb6.grown hgrow (by simp; omega) (fun g hg => (HR.out.lt g hg).1))
        clear hown hgrow hb6
        go_wp2
        go_roundw
        case rel => exact ⟨i + 1, by omega, by go_num, by rw [HY.out], by rw [HS1.out]; exact HR6.out, HB6.out⟩
        case measure => simp [intOf]; omega
      · have hzz := HFi.out.trans (HPP.out (by omega))
        subst hzz
        clear HFi HPP HCC
        go_wp2_with (at_builtin; refine wpList_append_own _ rfl _ _ 22 rfl w.heap.size 3 i0 (.int .i64 0) 1 8 Try.underlying22 hi iz0 iz1 iz2 rfl (by decide) _ _ _ rfl (World.ownsRow.alloc HR.out _) ⟨wr.heap.size, 0, none⟩ 1 1 [.int .i64 0] rfl rfl ?c1 ?c2 ?c3 ?c4 ?c5 ?_)
        case c1 => exact cell_one_new _ _ _
        case c2 => first | rfl | (intro u hu; simp at hu; subst hu; rfl)
        case c3 => rw [fl_len]; unfold maxLen; omega
        case c4 => rw [fl_len]; omega
        case c5 => first | omega | (simp; omega)
        intro v' w6 hown hgrow _
        have HR6 := Lib.hid (Row.appended hown)
        have hb6 : Below w.heap.size w (wr.alloc (.cells #[.int .i64 0] 3)) := HBW.out.alloc (by omega) _
        have HB6 := Lib.hid (hb6.grown hgrow (by simp; omega) (fun g hg => (HR.out.lt g hg).1))
        clear hown hgrow hb6
        go_wp2
        go_roundw
        case rel => exact ⟨i + 1, by omega, by go_num, by rw [HY.out], by rw [HS1.out]; exact HR6.out, HB6.out⟩
        case measure => simp [intOf]; omega
    · obtain rfl : k = i := by omega
      go_wp2
      go_ret
      exact ⟨_, rfl, HR.out, HBW.out⟩
set_option maxRecDepth 100000 in
set_option maxHeartbeats 4000000 in
/-- The closure of impl.poly.additiveCoefficients. -/
theorem acClo (m g cap P i N : Nat) (x : Int) (w : World) (hi : i < N) (hP : w.cell? ⟨P, 0, none⟩ = some (.slice (some ⟨g, 0, none⟩) N cap)) (he : w.cell? ⟨g, i * 7, none⟩ = some (.int .i64 m) ∧ w.cell? ⟨g, i * 7 + 1, none⟩ = some (.int .i64 (pr m)) ∧ w.cell? ⟨g, i * 7 + 2, none⟩ = some (.int .i64 (pl m)) ∧ w.cell? ⟨g, i * 7 + 3, none⟩ = some (.int .i64 (dg m x 0)) ∧ w.cell? ⟨g, i * 7 + 4, none⟩ = some (.int .i64 (dg m x 1)) ∧ w.cell? ⟨g, i * 7 + 5, none⟩ = some (.int .i64 (dg m x 2)) ∧ w.cell? ⟨g, i * 7 + 6, none⟩ = some (.int .i64 (dg m x 3))) :
    Calls Try.prog 106 #[.int .i64 i, .pointer (some ⟨P, 0, none⟩)] w fun e w' => e = .returned (elE (m : Int) x) ∧ Below w.heap.size w w' := by
  have l0 := World.block_lt_of_cell? w _ hP
  obtain ⟨e0, e1, e2, e3, e4, e5, e6⟩ := he
  have l1 := World.block_lt_of_cell? w _ e0
  simp only at l0 l1
  go_enter Try.func106, Try.ntmps106
  go_wp2_with fail
  refine bodyPost_ret (v := elE (m : Int) x) (by simp [results, Try.results106, go_sem]) rfl ⟨rfl, ?_⟩
  (repeat' (first | (with_reducible assumption) | (with_reducible exact Below.refl _ _) | (with_reducible refine below_drewN ?_ _) | (with_reducible refine Below.drew ?_) | (with_reducible refine Below.alloc ?_ ?_ _) | (with_reducible refine Below.setCell ?_ ?_ _) | (with_reducible refine Below.trans ?_ (Below.mono (by assumption) ?_)) | (with_reducible exact Nat.le_refl _) | (with_reducible assumption) | omega | (simp; omega) | (simp; done)))
set_option maxHeartbeats 1000000 in
/-- The closure of impl.mapped over numbers, at impl.poly.additiveCoefficients$1. -/
theorem cloAC (m P b n cap i A0 A1 : Nat) (x : Nat) (y : Int) (w : World) (hin : i < n)
    (HE0 : ∀ w', Below w.heap.size w w' → Calls Try.prog 106 #[.int .i64 x, .pointer (some ⟨P, 0, none⟩)] w' fun e w'' => e = .returned (elE (m : Int) y) ∧ Below w'.heap.size w' w'')
    (c0 : w.cell? ⟨A0, 0, none⟩ = some (.func (.func 106) #[] #[.pointer (some ⟨P, 0, none⟩)])) (c1 : w.cell? ⟨A1, 0, none⟩ = some (.slice (some ⟨b, 0, none⟩) n cap)) (c2 : w.cell? ⟨b, i, none⟩ = some (.int .i64 x)) :
    Calls Try.prog 110 #[.int .i64 i, .pointer (some ⟨A0, 0, none⟩), .pointer (some ⟨A1, 0, none⟩)] w fun e w' => e = .returned (elE (m : Int) y) ∧ Below w.heap.size w w' := by
  have HE := Lib.hid HE0; clear HE0
  have l0 := World.block_lt_of_cell? w _ c0
  have l1 := World.block_lt_of_cell? w _ c1
  have l2 := World.block_lt_of_cell? w _ c2
  simp only at l0 l1 l2
  go_enter Try.func110, Try.ntmps110
  go_wp2_with fail
  go_region_with (go_at_call 106; refine (HE.out _ (by (repeat' (first | (with_reducible assumption) | (with_reducible exact Below.refl _ _) | (with_reducible refine below_drewN ?_ _) | (with_reducible refine Below.drew ?_) | (with_reducible refine Below.alloc ?_ ?_ _) | (with_reducible refine Below.setCell ?_ ?_ _) | (with_reducible refine Below.trans ?_ (Below.mono (by assumption) ?_)) | (with_reducible exact Nat.le_refl _) | (with_reducible assumption) | omega | (simp; omega) | (simp; done))))).mono ?_; rintro e w1 ⟨rfl, hb1⟩; obtain ⟨hc1, hf1⟩ := bcell hb1; (try simp only [World.size_drew] at hc1 hf1); have hz1 := hb1.size; (try simp at hz1); have HB1 := Lib.hid hb1; clear hb1; have l3 : w.heap.size < w1.heap.size := (by omega))
  all_goals
    go_wp2_with fail
    have hb1 := HB1.out
    have q0 : w1.heap[w.heap.size]? = some zeroblk := (hb1.block _ (by simp)).trans (heap_alloc_new w _)
    obtain ⟨s0, s1, s2, s3, s4, s5, s6, sf, sl⟩ := seven q0
    clear q0
    refine bodyPost_ret (v := elE (m : Int) y) (by simp [results, Try.results110, go_sem, s0, s1, s2, s3, s4, s5, s6]) rfl ⟨rfl, ?_⟩
    (repeat' (first | (with_reducible assumption) | (with_reducible exact Below.refl _ _) | (with_reducible refine below_drewN ?_ _) | (with_reducible refine Below.drew ?_) | (with_reducible refine Below.alloc ?_ ?_ _) | (with_reducible refine Below.setCell ?_ ?_ _) | (with_reducible refine Below.trans ?_ (Below.mono (by assumption) ?_)) | (with_reducible exact Nat.le_refl _) | (with_reducible assumption) | omega | (simp; omega) | (simp; done)))
set_option maxHeartbeats 2000000 in
/-- impl.mapped over numbers, at impl.poly.additiveCoefficients$1. -/
theorem mappedAC (m b n cap P : Nat) (X : Nat → Nat) (Y : Nat → Int) (w : World) (hl : n ≤ 1000) (hbl : b < w.heap.size) (hc : ∀ i, i < n → w.cell? ⟨b, i, none⟩ = some (.int .i64 (X i)))
    (HE : ∀ i, i < n → ∀ w', Below w.heap.size w w' → Calls Try.prog 106 #[.int .i64 (X i), .pointer (some ⟨P, 0, none⟩)] w' fun e w'' => e = .returned (elE (m : Int) (Y i)) ∧ Below w'.heap.size w' w'') :
    Calls Try.prog 82 #[.slice (some ⟨b, 0, none⟩) n cap, .func (.func 106) #[] #[.pointer (some ⟨P, 0, none⟩)]] w fun e w' => ∃ g, e = .returned (.slice (some ⟨g, 0, none⟩) n n) ∧ w.heap.size ≤ g ∧ Blk w' g n ∧ Els w' g (m : Int) Y n ∧ Below w.heap.size w w' := by
  have HX : Hid (∀ (T1 T2 : TypeId) (i : Nat) w', i < n → Below ((w.alloc (lblk T1 (.slice (some ⟨b, 0, none⟩) n cap))).alloc (lblk T2 (.func (.func 106) #[] #[.pointer (some ⟨P, 0, none⟩)]))).heap.size ((w.alloc (lblk T1 (.slice (some ⟨b, 0, none⟩) n cap))).alloc (lblk T2 (.func (.func 106) #[] #[.pointer (some ⟨P, 0, none⟩)]))) w' →
      Calls Try.prog 110 #[.int .i64 i, .pointer (some ⟨w.heap.size + 1, 0, none⟩), .pointer (some ⟨w.heap.size, 0, none⟩)] w' fun e w'' => e = .returned (elE (m : Int) (Y i)) ∧ Below w'.heap.size w' w'') := Lib.hid fun T1 T2 i w' hi hb => by
    have hbw : Below w.heap.size w w' := by (repeat' (first | (with_reducible assumption) | (with_reducible exact Below.refl _ _) | (with_reducible refine below_drewN ?_ _) | (with_reducible refine Below.drew ?_) | (with_reducible refine Below.alloc ?_ ?_ _) | (with_reducible refine Below.setCell ?_ ?_ _) | (with_reducible refine Below.trans ?_ (Below.mono (by assumption) ?_)) | (with_reducible exact Nat.le_refl _) | (with_reducible assumption) | omega | (simp; omega) | (simp; done)))
    refine cloAC m P b n cap i _ _ (X i) (Y i) w' hi (fun w'' hb'' => HE i hi w'' (hbw.trans (hb''.mono hbw.size))) (at_box (T := T2) ?_) (at_box (T := T1) ?_) ((hbw.cell (p := ⟨b, i, none⟩) hbl).trans (hc i hi))
    · rw [hb.block _ (by simp)]
      have := heap_alloc_new (w.alloc (lblk T1 (.slice (some ⟨b, 0, none⟩) n cap))) (lblk T2 (.func (.func 106) #[] #[.pointer (some ⟨P, 0, none⟩)]))
      simpa using this
    · rw [hb.block _ (by simp; omega), Below.heap_alloc _ _ _ (by simp)]
      exact heap_alloc_new w _
  clear HE hc
  go_enter Try.func82, Try.ntmps82
  go_wp2_with fail
  refine (listOf_IE (m : Int) n Y (w.heap.size + 1) w.heap.size _ hl (HX.out _ _)).mono ?_
  rintro e w1 ⟨rfl, hk1, he1, hb1⟩
  have HK := Lib.hid hk1; clear hk1
  have HE := Lib.hid he1; clear he1
  have HB1 := Lib.hid hb1; clear hb1
  go_wp2
  go_ret
  have hb1 := HB1.out
  exact ⟨_, rfl, by omega, by simpa using HK.out, by simpa using HE.out, by (repeat' (first | (with_reducible assumption) | (with_reducible exact Below.refl _ _) | (with_reducible refine below_drewN ?_ _) | (with_reducible refine Below.drew ?_) | (with_reducible refine Below.alloc ?_ ?_ _) | (with_reducible refine Below.setCell ?_ ?_ _) | (with_reducible refine Below.trans ?_ (Below.mono (by assumption) ?_)) | (with_reducible exact Nat.le_refl _) | (with_reducible assumption) | omega | (simp; omega) | (simp; done)))⟩
set_option maxRecDepth 100000 in
set_option maxHeartbeats 4000000 in
/-- impl.poly.additiveCoefficients. -/
theorem additiveCoefficientsE (m n : Nat) (v : Value) (f : Nat → Int) (w : World) (h : isSz (m : Int) = true) (hv : Se w v (m : Int) f n) (hn : n ≤ m) (zf : ∀ i, n ≤ i → f i = 0) :
    Calls Try.prog 74 #[polyE (m : Int) v] w fun e w' => ∃ g, e = .returned (.slice (some ⟨g, 0, none⟩) (plN m) (plN m)) ∧ w.heap.size ≤ g ∧ Blk w' g (plN m) ∧ Els w' g (m : Int) (acf m f) (plN m) ∧ Below w.heap.size w w' := by
  have hq := isSz_le (m : Int) h
  have hkb := plN_bd (m : Int) h
  have HPD := Lib.hid (fun w' (hb : Below w.heap.size w w') => paddedE m n v f w' h (hv.below hb (Nat.le_refl _)) hn zf)
  have HP := Lib.hid (fun w => primePowersE (m : Int) w h)
  have HPL := Lib.hid (pp_lt (m : Int) h)
  have HMA := Lib.hid (fun b P w => mappedAC m b (plN m) (plN m) P (pp m) (acf m f) w (by omega))
  obtain ⟨g0, cap0, rfl, hg0, he0⟩ := hv
  clear h he0 zf
  generalize hkk : plN (m : Int) = k at *
  go_enter Try.func74, Try.ntmps74
  go_wp2_with fail
  refine (HPD.out _ (by (repeat' (first | (with_reducible assumption) | (with_reducible exact Below.refl _ _) | (with_reducible refine below_drewN ?_ _) | (with_reducible refine Below.drew ?_) | (with_reducible refine Below.alloc ?_ ?_ _) | (with_reducible refine Below.setCell ?_ ?_ _) | (with_reducible refine Below.trans ?_ (Below.mono (by assumption) ?_)) | (with_reducible exact Nat.le_refl _) | (with_reducible assumption) | omega | (simp; omega) | (simp; done))))).mono ?_
  rintro e w1 ⟨g1, rfl, hg1, hk1, he1, hb1⟩
  simp at hg1
  have hgl1 := hk1.lt
  have HE1 := Lib.hid he1; clear he1 hk1
  have h0 := (hb1.block _ (by simp)).trans (heap_alloc_new w (pblk (m : Int) (.slice (some ⟨g0, 0, none⟩) n cap0)))
  obtain ⟨z0, z1, z2, z3, zf, zl⟩ := cells4 h0
  have HB1 : Hid (Below w.heap.size w w1) := Lib.hid (by (repeat' (first | (with_reducible assumption) | (with_reducible exact Below.refl _ _) | (with_reducible refine below_drewN ?_ _) | (with_reducible refine Below.drew ?_) | (with_reducible refine Below.alloc ?_ ?_ _) | (with_reducible refine Below.setCell ?_ ?_ _) | (with_reducible refine Below.trans ?_ (Below.mono (by assumption) ?_)) | (with_reducible exact Nat.le_refl _) | (with_reducible assumption) | omega | (simp; omega) | (simp; done))))
  clear hb1 h0
  go_wp2_with fail
  refine (HP.out _).mono ?_
  rintro e w2 ⟨gP, rfl, hgP, hgPl, hrP, hb2⟩
  have HBX : Hid (Below w1.heap.size w1 w2) := Lib.hid (by (repeat' (first | (with_reducible assumption) | (with_reducible exact Below.refl _ _) | (with_reducible refine below_drewN ?_ _) | (with_reducible refine Below.drew ?_) | (with_reducible refine Below.alloc ?_ ?_ _) | (with_reducible refine Below.setCell ?_ ?_ _) | (with_reducible refine Below.trans ?_ (Below.mono (by assumption) ?_)) | (with_reducible exact Nat.le_refl _) | (with_reducible assumption) | omega | (simp; omega) | (simp; done))))
  have hbox : w2.heap[w1.heap.size]? = some (.cells #[.slice (some ⟨g1, 0, none⟩) m m] 36) := (hb2.block _ (by simp)).trans (heap_alloc_new w1 _)
  have hboxc := at_box hbox
  have hbl2 : w1.heap.size < w2.heap.size := (Array.getElem?_eq_some_iff.1 hbox).1
  have HMM : Hid (Calls Try.prog 82 #[.slice (some ⟨gP, 0, none⟩) k k, .func (.func 106) #[] #[.pointer (some ⟨w1.heap.size, 0, none⟩)]] w2 fun e w' => ∃ g, e = .returned (.slice (some ⟨g, 0, none⟩) k k) ∧ w2.heap.size ≤ g ∧ Blk w' g k ∧ Els w' g (m : Int) (acf m f) k ∧ Below w2.heap.size w2 w') := Lib.hid (HMA.out gP w1.heap.size w2 hgPl (fun i hi => by
      have := Row.cell (l := fl (ppf (m : Int)) k) (cap := k) (by rw [fl_len]; exact hrP) i (by rw [fl_len]; exact hi)
      rwa [fl_get _ _ _ hi] at this) (fun i hi w' hb => by
      have hPm : pp m i < m := by have := (HPL.out i hi).2; omega
      exact acClo m g1 m w1.heap.size (pp m i) m (f (pp m i)) w' hPm ((hb.cell (p := ⟨w1.heap.size, 0, none⟩) hbl2).trans hboxc) ((HE1.out.below (HBX.out.trans (hb.mono (by omega))) hgl1) _ hPm)))
  clear hrP hb2 hbox hboxc
  go_wp2_with fail
  refine HMM.out.mono ?_
  rintro e w3 ⟨g3, rfl, hg3, hk3, he3, hb3⟩
  have HK3 := Lib.hid hk3
  have HE3 := Lib.hid he3
  have HB3 : Hid (Below w.heap.size w w3) := Lib.hid (by
    have h1 := HB1.out
    have h2 := HBX.out
    have z1 := h1.size
    exact h1.trans ((h2.trans (hb3.mono (by omega))).mono (by omega)))
  have hz1 := HB1.out.size
  clear hk3 he3 hb3
  go_wp2
  go_ret
  exact ⟨_, rfl, by omega, HK3.out, HE3.out, HB3.out⟩
end Go.Proofs.Ytgndlpdcebmgmac
