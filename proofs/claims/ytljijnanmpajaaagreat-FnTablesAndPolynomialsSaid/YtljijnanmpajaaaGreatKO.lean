/- A bundle of texts: IK IN. -/
import Derived.Deep.RegionHeld3
import Derived.Test.YtljijnanmpajaaaGreatKI
import Derived.Test.YtljijnanmpajaaaGreatKA
import Derived.Test.YtljijnanmpajaaaGreatKG
namespace Go.Proofs.YtljijnanmpajaaaGreat
open Go.RowKit
/-- Between two places of a row. -/
def iplI (m : Nat) (t : Nat → Int) (a s : Nat) : Nat → Int := fun j => if j < s then ipl m t (a + 1) j else ipl m t a j
theorem iplI_step (m : Nat) (t : Nat → Int) (a s : Nat) : iplI m t a (s + 1) = upd (iplI m t a s) s (addF m (iplI m t a s s) (mulF m (t a) (cf m (a : Int) s))) := by
  funext j
  by_cases e : j = s
  · subst e
    rw [upd_at]
    simp only [iplI, Nat.lt_irrefl, if_false, Nat.lt_succ_self, if_true]
    rfl
  · rw [upd_ne _ _ _ _ e]
    unfold iplI
    by_cases hj : j < s
    · rw [if_pos hj, if_pos (by omega)]
    · rw [if_neg hj, if_neg (by omega)]
theorem iplI_start (m : Nat) (t : Nat → Int) (a : Nat) : iplI m t a 0 = ipl m t a := by
  funext j
  simp [iplI]
theorem iplI_end (m : Nat) (t : Nat → Int) (a : Nat) : fl (iplI m t a m) m = fl (ipl m t (a + 1)) m := fl_congr fun i hi => by simp [iplI, hi]
theorem ipl_zero (m : Nat) (t : Nat → Int) (N : Nat) : List.replicate N 0 = fl (ipl m t 0) N := by
  refine List.ext_getElem (by simp [fl]) fun j h1 h2 => ?_
  simp [fl, ipl, lsum]
set_option maxRecDepth 100000 in
set_option maxHeartbeats 4000000 in
/-- spec.plFrom. -/
theorem plFrom_any (m : Nat) (v : Value) (t : Nat → Int) (w : World) (h : isSz (m : Int) = true) (hv : Sl w v (fl t m)) (ht : ∀ i, El (m : Int) (t i)) :
    Calls Tryz.prog 101 #[.int .i64 m, v] w fun e w' => ∃ v', e = .returned v' ∧ Row w' w.heap.size v' (fl (ipl m t m) (sn (ipl m t m) m)) ∧ Below w.heap.size w w' := by
  obtain ⟨i0, hi, iz0, iz1, iz2⟩ := info_parts Tryz.infoI
  have hq := isSz_le (m : Int) h
  have HCF : Hid (∀ a j : Nat, a < m → El (m : Int) (cf m (a : Int) j)) := Lib.hid fun a j ha => cf_el h (El.nat ha) j
  have HW : Hid (∀ a j : Nat, a < m → j < m → ∀ w, Calls Tryz.prog 176 #[.int .i64 m, .int .i64 a, .int .i64 ((m : Int) - 1 - (j : Int))] w fun e w' => e = .returned (.int .i64 (pw m (a : Int) (m - 1 - j))) ∧ Below w.heap.size w w') := Lib.hid fun a j ha hj w => by
    have e : (m : Int) - 1 - (j : Int) = ((m - 1 - j : Nat) : Int) := by omega
    rw [e]
    have := fdPower_any (m : Int) (a : Int) ((m - 1 - j : Nat) : Int) w h (by omega) (by omega) (by omega) (by omega)
    rwa [Int.toNat_natCast] at this
  have HL := Lib.hid (fun (a j : Nat) (ha : a < m) w => fdLess_any (m : Int) 0 (pw m (a : Int) (m - 1 - j)) w h (Int.le_refl _) (by omega) (El.pw h (El.nat ha) _).1 (El.pw h (El.nat ha) _).2)
  have HO := Lib.hid (fun (a : Nat) (ha : a < m) w => fdPlus_any (m : Int) 1 (subF m 0 (pw m (a : Int) (m - 1 - 0))) w h (by omega) (by omega) (El.neg h (El.pw h (El.nat ha) _)).1 (El.neg h (El.pw h (El.nat ha) _)).2)
  have HT0 := Lib.hid (fun (a j : Nat) (ha : a < m) w => fdTimes_any (m : Int) (t a) (cf m (a : Int) j) w h (ht a).1 (ht a).2 (HCF.out a j ha).1 (HCF.out a j ha).2)
  have HIE : Hid (∀ a j i : Nat, a < m → El (m : Int) (iplI m t a j i)) := Lib.hid fun a j i ha => by
    unfold iplI
    split
    · exact ipl_el h ht _ _ (by omega)
    · exact ipl_el h ht _ _ (by omega)
  have HA := Lib.hid (fun (a : Nat) (ha : a < m) (j : Nat) (_ : j < m) w => fdPlus_any (m : Int) (iplI m t a j j) (mulF m (t a) (cf m (a : Int) j)) w h (HIE.out a j j ha).1 (HIE.out a j j ha).2 ((ht a).mul h (HCF.out a j ha)).1 ((ht a).mul h (HCF.out a j ha)).2)
  have HC0 : Hid (∀ a : Nat, addF m 1 (subF m 0 (pw m (a : Int) (m - 1 - 0))) = cf m (a : Int) 0) := Lib.hid fun a => by unfold cf; rw [if_pos rfl, Int.toNat_natCast]
  have HCS : Hid (∀ a j : Nat, j ≠ 0 → subF m 0 (pw m (a : Int) (m - 1 - j)) = cf m (a : Int) j) := Lib.hid fun a j hj => by unfold cf; rw [if_neg hj, Int.toNat_natCast]
  have HSTEP := Lib.hid (iplI_step m t)
  have HEND := Lib.hid (iplI_end m t)
  have HSTART := Lib.hid (iplI_start m t)
  have HSH := Lib.hid (fun g w' (hr : Row w' w.heap.size (.slice (some ⟨g, 0, none⟩) m m) (fl (ipl m t m) m)) (hg : g < w'.heap.size) => plShort_any g m m w.heap.size (ipl m t m) w' hr hg (by omega))
  have HZERO := Lib.hid (ipl_zero m t m)
  obtain ⟨a1, cap1, rfl, p1⟩ := hv.parts
  have HP1 := Lib.hid p1
  clear p1 hv ht h HCF HIE
  generalize hCC : iplI m t = C at *
  generalize hII : ipl m t = I at *
  clear hCC hII
  go_enter Tryz.func101, Tryz.ntmps101
  go_wp2_with (at_make; refine wpList_make_full _ rfl _ _ 24 rfl w.heap.size 3 i0 (.int .i64 0) 1 Tryz.underlying24 hi iz0 iz1 .i64 .i64 _ _ m rfl rfl rfl rfl ?c3 ?c4 ?c5 ?_)
  case c3 => rw [iz2]; omega
  case c4 => unfold maxLen; omega
  case c5 => omega
  intro w1 hown hgrow
  have HR : Hid (Row w1 w.heap.size (.slice (some ⟨w.heap.size, 0, none⟩) m m) (fl (I 0) m)) := Lib.hid (by
    have := Row.madeF (fun _ => 0) hown
    rw [← HZERO.out, show List.replicate m (0 : Int) = fl (part0 (fun _ => 0) 0) m from part0_zero _ _]
    exact this)
  have HB := Lib.hid ((Below.refl w.heap.size w).grown hgrow (Nat.le_refl _) (fun k hk => by cases hk))
  have hgl : w.heap.size < w1.heap.size := (HR.out.lt w.heap.size rfl).2
  clear hown hgrow
  go_wp2_with fail
  go_loopw [14] (fun vi wr => ∃ a : Nat, a ≤ m ∧ vi = .int .i64 a ∧ Row wr w.heap.size (.slice (some ⟨w.heap.size, 0, none⟩) m m) (fl (I a) m) ∧ w.heap.size < wr.heap.size ∧ Below w.heap.size w wr) (fun vi _ => m - (intOf vi).toNat)
  case atStart => exact ⟨0, Nat.zero_le _, rfl, HR.out, hgl, HB.out⟩
  case round =>
    obtain ⟨a, hin, rfl, hr, hgl', hbw⟩ := hrel
    have HRr := Lib.hid hr; clear hr
    by_cases hlt : a < m
    · obtain ⟨b1, off1, rfl, hb1, hc1⟩ := HP1.out (by omega)
      have hcell := (hbw.cell (p := ⟨b1, off1 + a, none⟩) hb1).trans (hc1 a hlt)
      have HBW := Lib.hid hbw; clear hbw hc1
      rw [← HSTART.out a] at HRr
      have HEND' := Lib.hid (HEND.out a)
      have HT := Lib.hid (fun j w => HT0.out a j hlt w)
      have HW' := Lib.hid (fun (j : Nat) (hj : j < m) w => HW.out a j hlt hj w)
      have HL' := Lib.hid (fun (j : Nat) w => HL.out a j hlt w)
      have HO' := Lib.hid (fun w => HO.out a hlt w)
      have HA' := Lib.hid (fun (j : Nat) (hj : j < m) w => HA.out a hlt j hj w)
      have HSTEP' := Lib.hid (fun j => HSTEP.out a j)
      have HC0' := Lib.hid (HC0.out a)
      have HCS' := Lib.hid (fun (j : Nat) (hj : j ≠ 0) => HCS.out a j hj)
      clear HT0 HW HL HO HA HSTEP HC0 HCS
      generalize t a = u at *
      generalize hCa : C a = D at *
      clear hCa
      go_wp2_with fail
      go_loopw [8] (fun vj ws => ∃ j : Nat, j ≤ m ∧ vj = .int .i64 j ∧ Row ws w.heap.size (.slice (some ⟨w.heap.size, 0, none⟩) m m) (fl (D j) m) ∧ w.heap.size < ws.heap.size ∧ Below w.heap.size w ws) (fun vj _ => m - (intOf vj).toNat)
      case atStart => exact ⟨0, Nat.zero_le _, rfl, HRr.out, hgl', HBW.out⟩
      case round =>
        obtain ⟨j, hjk, rfl, hr, hgl2, hbw⟩ := hrel
        have HRs := Lib.hid hr; clear hr
        by_cases hjlt : j < m
        · have HBS := Lib.hid hbw; clear hbw
          have HW2 := Lib.hid (HW'.out j hjlt)
          have HL2 := Lib.hid (HL'.out j)
          have HT2 := Lib.hid (HT.out j)
          have HA2 := Lib.hid (HA'.out j hjlt)
          have HUP := Lib.hid (HSTEP'.out j)
          have e2 := Row.cell (l := fl (D j) m) (cap := m) (by rw [fl_len]; exact HRs.out) j (by rw [fl_len]; exact hjlt)
          rw [fl_get _ _ _ hjlt] at e2
          have f2 := HRs.out.frozen (by rw [fl_len]) j
          have HSTO := Lib.hid (fun w' (hr : Row w' w.heap.size (.slice (some ⟨w.heap.size, 0, none⟩) m m) (fl (D j) m)) x => hr.store (by rw [fl_len]) j x)
          by_cases hj0 : j = 0
          · subst hj0
            rw [show (m : Int) - 1 - ((0 : Nat) : Int) = (m : Int) - 1 from by omega] at HW2
            have HO2 := Lib.hid HO'.out
            rw [HC0'.out] at HO2
            generalize pw m (a : Int) (m - 1 - 0) = p at *
            generalize subF m 0 p = s at *
            generalize D 0 0 = y at *
            generalize cf m (a : Int) 0 = c at *
            generalize mulF m u c = z at *
            go_wp2_with fail
            refine (HW2.out _).mono ?_
            rintro e w3 ⟨rfl, hb3⟩
            obtain ⟨hc3, hf3⟩ := bcell hb3; have hz3 := hb3.size; (try simp at hz3); have HB3 := Lib.hid hb3; clear hb3
            have l3 : w.heap.size < w3.heap.size := by omega
            go_wp2_with fail
            refine (HL2.out _).mono ?_
            rintro e w4 ⟨rfl, hb4⟩
            obtain ⟨hc4, hf4⟩ := bcell hb4; have hz4 := hb4.size; (try simp at hz4); have HB4 := Lib.hid hb4; clear hb4
            have l4 : w.heap.size < w4.heap.size := by omega
            go_wp2_with fail
            refine (HO2.out _).mono ?_
            rintro e w5 ⟨rfl, hb5⟩
            obtain ⟨hc5, hf5⟩ := bcell hb5; have hz5 := hb5.size; (try simp at hz5); have HB5 := Lib.hid hb5; clear hb5
            have l5 : w.heap.size < w5.heap.size := by omega
            go_wp2_with fail
            go_region_with (first | (go_at_call 178; refine (HT2.out _).mono ?_; rintro e w6 ⟨rfl, hb6⟩; obtain ⟨hc6, hf6⟩ := bcell hb6; (try simp only [World.size_drew] at hc6 hf6); have hz6 := hb6.size; (try simp at hz6); have HB6 := Lib.hid hb6; clear hb6; have l6 : w.heap.size < w6.heap.size := (by omega)) | (go_at_call 177; refine (HA2.out _).mono ?_; rintro e w7 ⟨rfl, hb7⟩; obtain ⟨hc7, hf7⟩ := bcell hb7; (try simp only [World.size_drew] at hc7 hf7); have hz7 := hb7.size; (try simp at hz7); have HB7 := Lib.hid hb7; clear hb7; have l7 : w.heap.size < w7.heap.size := (by omega)))
            all_goals
              go_wp2
              go_roundw
              case rel =>
                have hbs := HBS.out
                have hb3 := HB3.out
                have hb4 := HB4.out
                have hb5 := HB5.out
                have hb6 := HB6.out
                have hb7 := HB7.out
                refine ⟨0 + 1, by omega, by go_num, ?_, by simp; omega, by (repeat' (first | (with_reducible assumption) | (with_reducible exact Below.refl _ _) | (with_reducible refine below_drewN ?_ _) | (with_reducible refine Below.drew ?_) | (with_reducible refine Below.alloc ?_ ?_ _) | (with_reducible refine Below.setCell ?_ ?_ _) | (with_reducible refine Below.trans ?_ (Below.mono (by assumption) ?_)) | (with_reducible exact Nat.le_refl _) | (with_reducible assumption) | omega | (simp; omega) | (simp; done)))⟩
                rw [HUP.out, ← fl_set]
                exact HSTO.out _ (HRs.out.below (w' := w7) (by (repeat' (first | (with_reducible assumption) | (with_reducible exact Below.refl _ _) | (with_reducible refine below_drewN ?_ _) | (with_reducible refine Below.drew ?_) | (with_reducible refine Below.alloc ?_ ?_ _) | (with_reducible refine Below.setCell ?_ ?_ _) | (with_reducible refine Below.trans ?_ (Below.mono (by assumption) ?_)) | (with_reducible exact Nat.le_refl _) | (with_reducible assumption) | omega | (simp; omega) | (simp; done))))) _
              case measure => (simp [intOf]; try omega)
          · have hj0' : ¬ (j : Int) = 0 := by omega
            have hj0'' : ((j : Int) == 0) = false := by simpa using hj0
            rw [HCS'.out j hj0] at HL2
            generalize pw m (a : Int) (m - 1 - j) = p at *
            generalize D j j = y at *
            generalize cf m (a : Int) j = c at *
            generalize mulF m u c = z at *
            go_wp2_with fail
            refine (HW2.out _).mono ?_
            rintro e w3 ⟨rfl, hb3⟩
            obtain ⟨hc3, hf3⟩ := bcell hb3; have hz3 := hb3.size; (try simp at hz3); have HB3 := Lib.hid hb3; clear hb3
            have l3 : w.heap.size < w3.heap.size := by omega
            go_wp2_with fail
            refine (HL2.out _).mono ?_
            rintro e w4 ⟨rfl, hb4⟩
            obtain ⟨hc4, hf4⟩ := bcell hb4; have hz4 := hb4.size; (try simp at hz4); have HB4 := Lib.hid hb4; clear hb4
            have l4 : w.heap.size < w4.heap.size := by omega
            go_wp2_with fail
            go_region_with (first | (go_at_call 178; refine (HT2.out _).mono ?_; rintro e w6 ⟨rfl, hb6⟩; obtain ⟨hc6, hf6⟩ := bcell hb6; (try simp only [World.size_drew] at hc6 hf6); have hz6 := hb6.size; (try simp at hz6); have HB6 := Lib.hid hb6; clear hb6; have l6 : w.heap.size < w6.heap.size := (by omega)) | (go_at_call 177; refine (HA2.out _).mono ?_; rintro e w7 ⟨rfl, hb7⟩; obtain ⟨hc7, hf7⟩ := bcell hb7; (try simp only [World.size_drew] at hc7 hf7); have hz7 := hb7.size; (try simp at hz7); have HB7 := Lib.hid hb7; clear hb7; have l7 : w.heap.size < w7.heap.size := (by omega)))
            all_goals
              go_wp2
              go_roundw
              case rel =>
                have hbs := HBS.out
                have hb3 := HB3.out
                have hb4 := HB4.out
                have hb6 := HB6.out
                have hb7 := HB7.out
                refine ⟨j + 1, by omega, by go_num, ?_, by simp; omega, by (repeat' (first | (with_reducible assumption) | (with_reducible exact Below.refl _ _) | (with_reducible refine below_drewN ?_ _) | (with_reducible refine Below.drew ?_) | (with_reducible refine Below.alloc ?_ ?_ _) | (with_reducible refine Below.setCell ?_ ?_ _) | (with_reducible refine Below.trans ?_ (Below.mono (by assumption) ?_)) | (with_reducible exact Nat.le_refl _) | (with_reducible assumption) | omega | (simp; omega) | (simp; done)))⟩
                rw [HUP.out, ← fl_set]
                exact HSTO.out _ (HRs.out.below (w' := w7) (by (repeat' (first | (with_reducible assumption) | (with_reducible exact Below.refl _ _) | (with_reducible refine below_drewN ?_ _) | (with_reducible refine Below.drew ?_) | (with_reducible refine Below.alloc ?_ ?_ _) | (with_reducible refine Below.setCell ?_ ?_ _) | (with_reducible refine Below.trans ?_ (Below.mono (by assumption) ?_)) | (with_reducible exact Nat.le_refl _) | (with_reducible assumption) | omega | (simp; omega) | (simp; done))))) _
              case measure => (simp [intOf]; try omega)
        · obtain rfl : m = j := by omega
          rw [HEND'.out] at HRs
          have HBS := Lib.hid hbw; clear hbw
          go_wp2
          go_roundw
          case rel => exact ⟨a + 1, by omega, by go_num, HRs.out, hgl2, HBS.out⟩
          case measure => (simp [intOf]; try omega)
    · obtain rfl : m = a := by omega
      have HBW := Lib.hid hbw; clear hbw
      go_wp2_with fail
      refine (HSH.out _ _ HRr.out hgl').mono ?_
      rintro e w3 ⟨v3, rfl, hr3, hb3⟩
      have HR3 := Lib.hid hr3; clear hr3
      have HB3 := Lib.hid hb3; clear hb3
      go_wp2
      go_ret
      exact ⟨_, rfl, HR3.out.mono HBW.out.size, HBW.out.trans (HB3.out.mono HBW.out.size)⟩
theorem Row.lit0one (w : World) (a : Int) : Row (w.alloc (.cells #[.int .i64 a] 3)) w.heap.size (.slice (some ⟨w.heap.size, 0, none⟩) 1 1) (fl (one0 a) 1) := by
  have := World.ownsRow_lit (base := w.heap.size) (e := 3) (size := 1) w #[.int .i64 a] 1 (Nat.le_refl _) (by unfold maxLen; omega) rfl
  exact this
theorem one0_past (a : Int) : ∀ i, 1 ≤ i → one0 a i = 0 := fun i hi => if_neg (by omega)
set_option maxRecDepth 100000 in
set_option maxHeartbeats 4000000 in
/-- spec.plCompose. -/
theorem plCompose_any (m n k : Nat) (v1 v2 : Value) (f g : Nat → Int) (w : World) (h : isSz (m : Int) = true) (hv1 : Sl w v1 (fl f n)) (hv2 : Sl w v2 (fl g k)) (hf : ∀ i, El (m : Int) (f i)) (hg : ∀ i, El (m : Int) (g i)) (hn : n ≤ 50) (hk : k ≤ 50) :
    Calls Tryz.prog 120 #[.int .i64 m, v1, v2] w fun e w' => ∃ v', e = .returned v' ∧ Row w' w.heap.size v' (fl (cmp m f n g k n).1 (cmp m f n g k n).2) ∧ Below w.heap.size w w' := by
  have hq := isSz_le (m : Int) h
  have HOK := Lib.hid (fun s => cmp_ok (n := n) (k := k) h hf hg s)
  have HT := Lib.hid (fun (s : Nat) v w' (hb : Below w.heap.size w w') (hs : Sl w' v (fl (cmp m f n g k s).1 (cmp m f n g k s).2)) => plTimes_any m (cmp m f n g k s).2 k v v2 (cmp m f n g k s).1 g w' h hs (hv2.below hb (Nat.le_refl _)) (HOK.out s).el hg (by have := (HOK.out s).le; omega) (by omega))
  have HA := Lib.hid (fun (s : Nat) v vl w' (hs : Sl w' v (fl (mulP m (cmp m f n g k s) g k).1 (mulP m (cmp m f n g k s) g k).2)) (hl : Sl w' vl (fl (one0 (f (n - 1 - s))) 1)) =>
    plPlus_any m (mulP m (cmp m f n g k s) g k).2 1 v vl (mulP m (cmp m f n g k s) g k).1 (one0 (f (n - 1 - s))) w' h hs hl (mulP_ok h (HOK.out s) hg).el (one0_el h (hf _)) (mulP_ok h (HOK.out s) hg).past (one0_past _) (by have := (mulP_ok (k := k) h (HOK.out s) hg).le; omega) (by omega))
  obtain ⟨a1, cap1, rfl, p1⟩ := hv1.parts
  have HP1 := Lib.hid p1
  have HF2 : Hid (∃ a cap, v2 = .slice a k cap) := Lib.hid (by obtain ⟨a, cap, e, _⟩ := hv2.parts; exact ⟨a, cap, e⟩)
  have H00 : Hid (fl (cmp m f n g k 0).1 (cmp m f n g k 0).2 = []) := Lib.hid rfl
  have HTE : Hid (∀ s, fl (redR m (cou m (cmp m f n g k s).1 g k (cmp m f n g k s).2) ((cmp m f n g k s).2 + k)) (redn m (cou m (cmp m f n g k s).1 g k (cmp m f n g k s).2) ((cmp m f n g k s).2 + k)) = fl (mulP m (cmp m f n g k s) g k).1 (mulP m (cmp m f n g k s) g k).2) := Lib.hid fun _ => rfl
  have HAE : Hid (∀ s, fl (pls m (mulP m (cmp m f n g k s) g k).1 (one0 (f (n - 1 - s)))) (sn (pls m (mulP m (cmp m f n g k s) g k).1 (one0 (f (n - 1 - s)))) (max (mulP m (cmp m f n g k s) g k).2 1)) = fl (cmp m f n g k (s + 1)).1 (cmp m f n g k (s + 1)).2) := Lib.hid fun _ => rfl
  obtain ⟨a2, cap2, rfl⟩ := HF2.out
  clear p1 hv1 hv2 hf hg h HF2
  generalize hPL : (fun s => fl (cmp m f n g k s).1 (cmp m f n g k s).2) = PL at *
  have HPL : Hid (∀ s, fl (cmp m f n g k s).1 (cmp m f n g k s).2 = PL s) := Lib.hid fun s => by rw [← hPL]
  clear hPL
  go_enter Tryz.func120, Tryz.ntmps120
  go_wp2_with fail
  go_loopw [7, 8] (fun vo vi wr => ∃ s : Nat, s ≤ n ∧ vi = .int .i64 ((n : Int) - 1 - (s : Int)) ∧ Row wr w.heap.size vo (fl (cmp m f n g k s).1 (cmp m f n g k s).2) ∧ Below w.heap.size w wr) (fun _ vi _ => (intOf vi + 1).toNat)
  case atStart => exact ⟨0, Nat.zero_le _, by simp, by rw [H00.out]; exact Row.nil _ _, Below.refl _ _⟩
  case round =>
    obtain ⟨s, hsn, rfl, hr, hbw⟩ := hrel
    have HRr := Lib.hid hr; clear hr
    by_cases hlt : s < n
    · obtain ⟨b1, off1, rfl, hb1, hc1⟩ := HP1.out (by omega)
      have hcell := (hbw.cell (p := ⟨b1, off1 + (n - 1 - s), none⟩) hb1).trans (hc1 (n - 1 - s) (by omega))
      have hbl : b1 < wr.heap.size := by have := hbw.size; omega
      have HBW := Lib.hid hbw; clear hbw hc1
      have HT' := Lib.hid (HT.out s)
      have HA' := Lib.hid (HA.out s)
      have HTE' := Lib.hid (HTE.out s)
      have HAE' := Lib.hid (HAE.out s)
      have hz : (n : Int) - 1 - (s : Int) = ((n - 1 - s : Nat) : Int) := by omega
      have hin : n - 1 - s < n := by omega
      rw [hz]
      generalize hi : n - 1 - s = i at *
      have HI := Lib.hid hi; clear hi hz
      have hin' : (i : Int) < (n : Int) := by omega
      generalize f i = x at *
      have HKEEP : Hid (∀ w', Below wr.heap.size wr w' → w'.cell? ⟨b1, off1 + i, none⟩ = some (.int .i64 x)) := Lib.hid fun w' hb => (hb.cell (p := ⟨b1, off1 + i, none⟩) hbl).trans hcell
      go_wp2_with fail
      go_region_held3 (fun w' => w'.cell? ⟨b1, off1 + i, none⟩ = some (.int .i64 x))
        (exact HKEEP.out _ (by (try have hb3 := HB3.out); (try have hb4 := HB4.out); (repeat' (first | (with_reducible assumption) | (with_reducible exact Below.refl _ _) | (with_reducible refine below_drewN ?_ _) | (with_reducible refine Below.drew ?_) | (with_reducible refine Below.alloc ?_ ?_ _) | (with_reducible refine Below.setCell ?_ ?_ _) | (with_reducible refine Below.trans ?_ (Below.mono (by assumption) ?_)) | (with_reducible exact Nat.le_refl _) | (with_reducible assumption) | omega | (simp; omega) | (simp; done)))))
        (first
        | (go_at_call 124; refine (HT'.out _ _ (by have hb := HBW.out; have hzb := hb.size; (repeat' (first | (with_reducible assumption) | (with_reducible exact Below.refl _ _) | (with_reducible refine below_drewN ?_ _) | (with_reducible refine Below.drew ?_) | (with_reducible refine Below.alloc ?_ ?_ _) | (with_reducible refine Below.setCell ?_ ?_ _) | (with_reducible refine Below.trans ?_ (Below.mono (by assumption) ?_)) | (with_reducible exact Nat.le_refl _) | (with_reducible assumption) | omega | (simp; omega) | (simp; done)))) (Row.below HRr.out (by (repeat' (first | (with_reducible assumption) | (with_reducible exact Below.refl _ _) | (with_reducible refine below_drewN ?_ _) | (with_reducible refine Below.drew ?_) | (with_reducible refine Below.alloc ?_ ?_ _) | (with_reducible refine Below.setCell ?_ ?_ _) | (with_reducible refine Below.trans ?_ (Below.mono (by assumption) ?_)) | (with_reducible exact Nat.le_refl _) | (with_reducible assumption) | omega | (simp; omega) | (simp; done))))).sl).mono ?_; rintro e w3 ⟨v3, rfl, hr3, hb3⟩; have hz3 := hb3.size; (try simp at hz3); rw [HTE'.out] at hr3; have HR3 := Lib.hid hr3; clear hr3; have HB3 := Lib.hid hb3; clear hb3)
        | (go_at_call 122; refine (HA'.out _ _ _ (by first | exact HR3.out.sl | exact (Row.below HR3.out (by (repeat' (first | (with_reducible assumption) | (with_reducible exact Below.refl _ _) | (with_reducible refine below_drewN ?_ _) | (with_reducible refine Below.drew ?_) | (with_reducible refine Below.alloc ?_ ?_ _) | (with_reducible refine Below.setCell ?_ ?_ _) | (with_reducible refine Below.trans ?_ (Below.mono (by assumption) ?_)) | (with_reducible exact Nat.le_refl _) | (with_reducible assumption) | omega | (simp; omega) | (simp; done))))).sl) (by first | exact (Row.lit0one _ _).sl | exact (Row.below (Row.lit0one _ _) HB3.out).sl | exact (Row.below (Row.drew (Row.lit0one _ _)) HB3.out).sl)).mono ?_; rintro e w4 ⟨v4, rfl, hr4, hb4⟩; have hz4 := hb4.size; (try simp at hz4); rw [HAE'.out] at hr4; have HR4 := Lib.hid hr4; clear hr4; have HB4 := Lib.hid hb4; clear hb4))
      all_goals
        go_wp2
        go_roundw
        case rel =>
          have hI := HI.out
          have hb := HBW.out
          have hzb := hb.size
          have hb3 := HB3.out
          have hb4 := HB4.out
          exact ⟨s + 1, by omega, by rw [← hI]; exact congrArg (Value.int .i64) (by omega), HR4.out.mono (by (try simp); omega), by (repeat' (first | (with_reducible assumption) | (with_reducible exact Below.refl _ _) | (with_reducible refine below_drewN ?_ _) | (with_reducible refine Below.drew ?_) | (with_reducible refine Below.alloc ?_ ?_ _) | (with_reducible refine Below.setCell ?_ ?_ _) | (with_reducible refine Below.trans ?_ (Below.mono (by assumption) ?_)) | (with_reducible exact Nat.le_refl _) | (with_reducible assumption) | omega | (simp; omega) | (simp; done)))⟩
        case measure => (simp [intOf]; try omega)
    · obtain rfl : n = s := by omega
      have HBW := Lib.hid hbw; clear hbw
      go_wp2
      go_ret
      exact ⟨_, rfl, HRr.out, HBW.out⟩
set_option maxRecDepth 100000 in
set_option maxHeartbeats 4000000 in
/-- spec.plPower. -/
theorem plPower_any (m n K : Nat) (v : Value) (f : Nat → Int) (w : World) (h : isSz (m : Int) = true) (hv : Sl w v (fl f n)) (hf : ∀ i, El (m : Int) (f i)) (hn : n ≤ 50) (hK : K ≤ 1000) :
    Calls Tryz.prog 130 #[.int .i64 m, v, .int .i64 K] w fun e w' => ∃ v', e = .returned v' ∧ Row w' w.heap.size v' (fl (pwr m f n K).1 (pwr m f n K).2) ∧ Below w.heap.size w w' := by
  have hq := isSz_le (m : Int) h
  have HOK := Lib.hid (fun s => pwr_ok (n := n) h hf s)
  have HT := Lib.hid (fun (s : Nat) v' w' (hb : Below w.heap.size w w') (hs : Sl w' v' (fl (pwr m f n s).1 (pwr m f n s).2)) => plTimes_any m (pwr m f n s).2 n v' v (pwr m f n s).1 f w' h hs (hv.below hb (Nat.le_refl _)) (HOK.out s).el hf (by have := (HOK.out s).le; omega) (by omega))
  have H00 : Hid (∀ w : World, Row (w.alloc (.cells #[.int .i64 1] 3)) w.heap.size (.slice (some ⟨w.heap.size, 0, none⟩) 1 1) (fl (pwr m f n 0).1 (pwr m f n 0).2)) := Lib.hid fun w => Row.lit0one w 1
  have HTE : Hid (∀ s, fl (redR m (cou m (pwr m f n s).1 f n (pwr m f n s).2) ((pwr m f n s).2 + n)) (redn m (cou m (pwr m f n s).1 f n (pwr m f n s).2) ((pwr m f n s).2 + n)) = fl (pwr m f n (s + 1)).1 (pwr m f n (s + 1)).2) := Lib.hid fun _ => rfl
  obtain ⟨a1, cap1, rfl⟩ := hv.form
  clear hv hf h HOK
  go_enter Tryz.func130, Tryz.ntmps130
  go_wp2_with fail
  go_loopw [7, 2] (fun vo vk wr => ∃ s : Nat, s ≤ K ∧ vk = .int .i64 ((K : Int) - (s : Int)) ∧ Row wr w.heap.size vo (fl (pwr m f n s).1 (pwr m f n s).2) ∧ Below w.heap.size w wr) (fun _ vk _ => (intOf vk).toNat)
  case atStart => exact ⟨0, Nat.zero_le _, by simp, H00.out w, by (repeat' (first | (with_reducible assumption) | (with_reducible exact Below.refl _ _) | (with_reducible refine below_drewN ?_ _) | (with_reducible refine Below.drew ?_) | (with_reducible refine Below.alloc ?_ ?_ _) | (with_reducible refine Below.setCell ?_ ?_ _) | (with_reducible refine Below.trans ?_ (Below.mono (by assumption) ?_)) | (with_reducible exact Nat.le_refl _) | (with_reducible assumption) | omega | (simp; omega) | (simp; done)))⟩
  case round =>
    obtain ⟨s, hsn, rfl, hr, hbw⟩ := hrel
    have HRr := Lib.hid hr; clear hr
    by_cases hlt : s < K
    · have HBW := Lib.hid hbw; clear hbw
      have HT' := Lib.hid (HT.out s)
      have HTE' := Lib.hid (HTE.out s)
      have hpos : (0 : Int) < (K : Int) - (s : Int) := by omega
      go_wp2_with fail
      refine (HT'.out _ _ HBW.out HRr.out.sl).mono ?_
      rintro e w3 ⟨v3, rfl, hr3, hb3⟩
      rw [HTE'.out] at hr3
      have HR3 := Lib.hid hr3; clear hr3
      have HB3 := Lib.hid hb3; clear hb3
      go_wp2
      go_roundw
      case rel => exact ⟨s + 1, by omega, congrArg (Value.int .i64) (by omega), HR3.out.mono HBW.out.size, HBW.out.trans (HB3.out.mono HBW.out.size)⟩
      case measure => (simp [intOf]; try omega)
    · obtain rfl : K = s := by omega
      have HBW := Lib.hid hbw; clear hbw
      have hpos : ¬ (0 : Int) < (K : Int) - (K : Int) := by omega
      go_wp2
      go_ret
      exact ⟨_, rfl, HRr.out, HBW.out⟩
end Go.Proofs.YtljijnanmpajaaaGreat
