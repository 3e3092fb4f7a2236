/- A bundle of texts: IK IN. -/
import Derived.Deep.RegionHeld3
import Derived.Test.YtapglncgicfjnabGreatKI
import Derived.Test.YtapglncgicfjnabGreatKA
import Derived.Test.YtapglncgicfjnabGreatKG
namespace Go.Proofs.YtapglncgicfjnabGreat
open Go.RowKit
/-- Between two places of a row. -/
def iplI (m : Nat) (t : Nat → Int) (a s : Nat) : Nat → Int := fun j => if j < s then ipl m t (a + 1) j else ipl m t a j
theorem iplI_step (m : Nat) (t : Nat → Int) (a s : Nat) : iplI m t a (s + 1) = upd (iplI m t a s) s (addF m (iplI m t a s s) (mulF m (t a) (cf m (a : Int) s))) := by
  funext j
  by_cases e : j = s
  · subst e
    rw [upd_at]
    simp only [iplI, Nat.lt_irrefl, if_false, Nat.lt_succ_self, if_true]
    rfl
  · rw [upd_ne _ _ _ _ e]
    unfold iplI
    by_cases hj : j < s
    · rw [if_pos hj, if_pos (by omega)]
    · rw [if_neg hj, if_neg (by omega)]
theorem iplI_start (m : Nat) (t : Nat → Int) (a : Nat) : iplI m t a 0 = ipl m t a := by
  funext j
  simp [iplI]
theorem iplI_end (m : Nat) (t : Nat → Int) (a : Nat) : fl (iplI m t a m) m = fl (ipl m t (a + 1)) m := fl_congr fun i hi => by simp [iplI, hi]
theorem ipl_zero (m : Nat) (t : Nat → Int) (N : Nat) : List.replicate N 0 = fl (ipl m t 0) N := by
  refine List.ext_getElem (by simp [fl]) fun j h1 h2 => ?_
  simp [fl, ipl, lsum]
set_option maxRecDepth 100000 in
set_option maxHeartbeats 4000000 in
/-- spec.plFrom. -/
theorem plFrom_any (m : Nat) (v : Value) (t : Nat → Int) (w : World) (h : isSz (m : Int) = true) (hv : Sl w v (fl t m)) (ht : ∀ i, El (m : Int) (t i)) :
    Calls Tryz.prog 76 #[.int .i64 m, v] w fun e w' => ∃ v', e = .returned v' ∧ Row w' w.heap.size v' (fl (ipl m t m) (sn (ipl m t m) m)) ∧ Below w.heap.size w w' := by
  obtain ⟨i0, hi, iz0, iz1, iz2⟩ := info_parts Tryz.infoI
  have hq := isSz_le (m : Int) h
  have HCF : Hid (∀ a j : Nat, a < m → El (m : Int) (cf m (a : Int) j)) := Lib.hid fun a j ha => cf_el h (El.nat ha) j
  have HW : Hid (∀ a j : Nat, a < m → j < m → ∀ w, Calls Tryz.prog 162 #[.int .i64 m, .int .i64 a, .int .i64 ((m : Int) - 1 - (j : Int))] w fun e w' => e = .returned (.int .i64 (pw m (a : Int) (m - 1 - j))) ∧ Below w.heap.size w w') := Lib.hid fun a j ha hj w => by
    have e : (m : Int) - 1 - (j : Int) = ((m - 1 - j : Nat) : Int) := by omega
    rw [e]
    have := fdPower_any (m : Int) (a : Int) ((m - 1 - j : Nat) : Int) w h (by omega) (by omega) (by omega) (by omega)
    rwa [Int.toNat_natCast] at this
  have HL := Lib.hid (fun (a j : Nat) (ha : a < m) w => fdLess_any (m : Int) 0 (pw m (a : Int) (m - 1 - j)) w h (Int.le_refl _) (by omega) (El.pw h (El.nat ha) _).1 (El.pw h (El.nat ha) _).2)
  have HO := Lib.hid (fun (a : Nat) (ha : a < m) w => fdPlus_any (m : Int) 1 (subF m 0 (pw m (a : Int) (m - 1 - 0))) w h (by omega) (by omega) (El.neg h (El.pw h (El.nat ha) _)).1 (El.neg h (El.pw h (El.nat ha) _)).2)
  have HT0 := Lib.hid (fun (a j : Nat) (ha : a < m) w => fdTimes_any (m : Int) (t a) (cf m (a : Int) j) w h (ht a).1 (ht a).2 (HCF.out a j ha).1 (HCF.out a j ha).2)
  have HIE : Hid (∀ a j i : Nat, a < m → El (m : Int) (iplI m t a j i)) := Lib.hid fun a j i ha => by
    unfold iplI
    split
    · exact ipl_el h ht _ _ (by omega)
    · exact ipl_el h ht _ _ (by omega)
  have HA := Lib.hid (fun (a : Nat) (ha : a < m) (j : Nat) (_ : j < m) w => fdPlus_any (m : Int) (iplI m t a j j) (mulF m (t a) (cf m (a : Int) j)) w h (HIE.out a j j ha).1 (HIE.out a j j ha).2 ((ht a).mul h (HCF.out a j ha)).1 ((ht a).mul h (HCF.out a j ha)).2)
  have HC0 : Hid (∀ a : Nat, addF m 1 (subF m 0 (pw m (a : Int) (m - 1 - 0))) = cf m (a : Int) 0) := Lib.hid fun a => by unfold cf; rw [if_pos rfl, Int.toNat_natCast]
  have HCS : Hid (∀ a j : Nat, j ≠ 0 → subF m 0 (pw m (a : Int) (m - 1 - j)) = cf m (a : Int) j) := Lib.hid fun a j hj => by unfold cf; rw [if_neg hj, Int.toNat_natCast]
  have HSTEP := Lib.hid (iplI_step m t)
  have HEND := Lib.hid (iplI_end m t)
  have HSTART := Lib.hid (iplI_start m t)
  have HSH := Lib.hid (fun g w' (hr : Row w' w.heap.size (.slice (some ⟨g, 0, none⟩) m m) (fl (ipl m t m) m)) (hg : g < w'.heap.size) => plShort_any g m m w.heap.size (ipl m t m) w' hr hg (by omega))
  have HZERO := Lib.hid (ipl_zero m t m)
  obtain ⟨a1, cap1, rfl, p1⟩ := hv.parts
  have HP1 := Lib.hid p1
  clear p1 hv ht h HCF HIE
  generalize hCC : iplI m t = C at *
  generalize hII : ipl m t = I at *
  clear hCC hII
  go_enter Tryz.func76, Tryz.ntmps76
  go_wp2_with (at_make; refine wpList_make_full _ rfl _ _ 24 rfl w.heap.size 3 i0 (.int .i64 0) 1 Tryz.underlying24 hi iz0 iz1 .i64 .i64 _ _ m rfl rfl rfl rfl ?c3 ?c4 ?c5 ?_)
  case c3 => rw [iz2]; omega
  case c4 => unfold maxLen; omega
  case c5 => omega
  intro w1 hown hgrow
  have HR : Hid (Row w1 w.heap.size (.slice (some ⟨w.heap.size, 0, none⟩) m m) (fl (I 0) m)) := Lib.hid (by
    have := Row.madeF (fun _ => 0) hown
    rw [← HZERO.out, show List.replicate m (0 : Int) = fl (part0 (fun _ => 0) 0) m from part0_zero _ _]
    exact this)
  have HB := Lib.hid ((Below.refl w.heap.size w).grown hgrow (Nat.le_refl _) (fun k hk => by cases hk))
  have hgl : w.heap.size < w1.heap.size := (HR.out.lt w.heap.size rfl).2
  clear hown hgrow
  go_wp2_with fail
  go_loopw [14] (fun vi wr => ∃ a : Nat, a ≤ m ∧ vi = .int .i64 a ∧ Row wr w.heap.size (.slice (some ⟨w.heap.size, 0, none⟩) m m) (fl (I a) m) ∧ w.heap.size < wr.heap.size ∧ Below w.heap.size w wr) (fun vi _ => m - (intOf vi).toNat)
  case atStart => exact ⟨0, Nat.zero_le _, rfl, HR.out, hgl, HB.out⟩
  case round =>
    obtain ⟨a, hin, rfl, hr, hgl', hbw⟩ := hrel
    have HRr := Lib.hid hr; clear hr
    by_cases hlt : a < m
    · obtain ⟨b1, off1, rfl, hb1, hc1⟩ := HP1.out (by omega)
      have hcell := (hbw.cell (p := ⟨b1, off1 + a, none⟩) hb1).trans (hc1 a hlt)
      have HBW := Lib.hid hbw; clear hbw hc1
      rw [← HSTART.out a] at HRr
      have HEND' := Lib.hid (HEND.out a)
      have HT := Lib.hid (fun j w => HT0.out a j hlt w)
      have HW' := Lib.hid (fun (j : Nat) (hj : j < m) w => HW.out a j hlt hj w)
      have HL' := Lib.hid (fun (j : Nat) w => HL.out a j hlt w)
      have HO' := Lib.hid (fun w => HO.out a hlt w)
      have HA' := Lib.hid (fun (j : Nat) (hj : j < m) w => HA.out a hlt j hj w)
      have HSTEP' := Lib.hid (fun j => HSTEP.out a j)
      have HC0' := Lib.hid (HC0.out a)
      have HCS' := Lib.hid (fun (j : Nat) (hj : j ≠ 0) => HCS.out a j hj)
      clear HT0 HW HL HO HA HSTEP HC0 HCS
      generalize t a = u at *
      generalize hCa : C a = D at *
      clear hCa
      go_wp2_with fail
      go_loopw [8] (fun vj ws => ∃ j : Nat, j ≤ m ∧ vj = .int .i64 j ∧ Row ws w.heap.size (.slice (some ⟨w.heap.size, 0, none⟩) m m) (fl (D j) m) ∧ w.heap.size < ws.heap.size ∧ Below w.heap.size w ws) (fun vj _ => m - (intOf vj).toNat)
      case atStart => exact ⟨0, Nat.zero_le _, rfl, HRr.out, hgl', HBW.out⟩
      case round =>
        obtain ⟨j, hjk, rfl, hr, hgl2, hbw⟩ := hrel
        have HRs := Lib.hid hr; clear hr
        by_cases hjlt : j < m
        · have HBS := Lib.hid hbw; clear hbw
          have HW2 := Lib.hid (HW'.out j hjlt)
          have HL2 := Lib.hid (HL'.out j)
          have HT2 := Lib.hid (HT.out j)
          have HA2 := Lib.hid (HA'.out j hjlt)
          have HUP := Lib.hid (HSTEP'.out j)
          have e2 := Row.cell (l := fl (D j) m) (cap := m) (by rw [fl_len]; exact HRs.out) j (by rw [fl_len]; exact hjlt)
          rw [fl_get _ _ _ hjlt] at e2
          have f2 := HRs.out.frozen (by rw [fl_len]) j
          have HSTO := Lib.hid (fun w' (hr : Row w' w.heap.size (.slice (some ⟨w.heap.size, 0, none⟩) m m) (fl (D j) m)) x => hr.store (by rw [fl_len]) j x)
          by_cases hj0 : j = 0
          · subst hj0
            rw [show (m : Int) - 1 - ((0 : Nat) : Int) = (m : Int) - 1 from by omega] at HW2
            have HO2 := Lib.hid HO'.out
            rw [HC0'.out] at HO2
            generalize pw m (a : Int) (m - 1 - 0) = p at *
            generalize subF m 0 p = s at *
            generalize D 0 0 = y at *
            generalize cf m (a : Int) 0 = c at *
            generalize mulF m u c = z at *
            go_wp2_with fail
            refine (HW2.out _).mono ?_
            rintro e w3 ⟨rfl, hb3⟩
            obtain ⟨hc3, hf3⟩ := bcell hb3; have hz3 := hb3.size; (try simp at hz3); have HB3 := Lib.hid hb3; clear hb3
            have l3 : w.heap.size < w3.heap.size := by omega
            go_wp2_with fail
            refine (HL2.out _).mono ?_
            rintro e w4 ⟨rfl, hb4⟩
            obtain ⟨hc4, hf4⟩ := bcell hb4; have hz4 := hb4.size; (try simp at hz4); have HB4 := Lib.hid hb4; clear hb4
            have l4 : w.heap.size < w4.heap.size := by omega
            go_wp2_with fail
            refine (HO2.out _).mono ?_
            rintro e w5 ⟨rfl, hb5⟩
            obtain ⟨hc5, hf5⟩ := bcell hb5; have hz5 := hb5.size; (try simp at hz5); have HB5 := Lib.hid hb5; clear hb5
            have l5 : w.heap.size < w5.heap.size := by omega
            go_wp2_with fail
            go_region_with (first | (go_at_call 163; refine (HT2.out _).mono ?_; rintro e w6 ⟨rfl, hb6⟩; obtain ⟨hc6, hf6⟩ := bcell hb6; (try simp only [World.size_drew] at hc6 hf6); have hz6 := hb6.size; (try simp at hz6); have HB6 := Lib.hid hb6; clear hb6; have l6 : w.heap.size < w6.heap.size := (by omega)) | (go_at_call 149; refine (HA2.out _).mono ?_; rintro e w7 ⟨rfl, hb7⟩; obtain ⟨hc7, hf7⟩ := bcell hb7; (try simp only [World.size_drew] at hc7 hf7); have hz7 := hb7.size; (try simp at hz7); have HB7 := Lib.hid hb7; clear hb7; have l7 : w.heap.size < w7.heap.size := (by omega)))
            all_goals
              go_wp2
              go_roundw
              case rel =>
                have hbs := HBS.out
                have hb3 := HB3.out
                have hb4 := HB4.out
                have hb5 := HB5.out
                have hb6 := HB6.out
                have hb7 := HB7.out
                refine ⟨0 + 1, by omega, by go_num, ?_, by simp; omega, by (repeat' (first | (with_reducible assumption) | (with_reducible exact Below.refl _ _) | (with_reducible refine below_drewN ?_ _) | (with_reducible refine Below.drew ?_) | (with_reducible refine Below.alloc ?_ ?_ _) | (with_reducible refine Below.setCell ?_ ?_ _) | (with_reducible refine Below.trans ?_ (Below.mono (by assumption) ?_)) | (with_reducible exact Nat.le_refl _) | (with_reducible assumption) | omega | (simp; omega) | (simp; done)))⟩
                rw [HUP.out, ← fl_set]
                exact HSTO.out _ (HRs.out.below (w' := w7) (by (repeat' (first | (with_reducible assumption) | (with_reducible exact Below.refl _ _) | (with_reducible refine below_drewN ?_ _) | (with_reducible refine Below.drew ?_) | (with_reducible refine Below.alloc ?_ ?_ _) | (with_reducible refine Below.setCell ?_ ?_ _) | (with_reducible refine Below.trans ?_ (Below.mono (by assumption) ?_)) | (with_reducible exact Nat.le_refl _) | (with_reducible assumption) | omega | (simp; omega) | (simp; done))))) _
              case measure => (simp [intOf]; try omega)
          · have hj0' : ¬ (j : Int) = 0 := by omega
            have hj0'' : ((j : Int) == 0) = false := by simpa using hj0
            rw [HCS'.out j hj0] at HL2
            generalize pw m (a : Int) (m - 1 - j) = p at *
            generalize D j j = y at *
            generalize cf m (a : Int) j = c at *
            generalize mulF m u c = z at *
            go_wp2_with fail
            refine (HW2.out _).mono ?_
            rintro e w3 ⟨rfl, hb3⟩
            obtain ⟨hc3, hf3⟩ := bcell hb3; have hz3 := hb3.size; (try simp at hz3); have HB3 := Lib.hid hb3; clear hb3
            have l3 : w.heap.size < w3.heap.size := by omega
            go_wp2_with fail
            refine (HL2.out _).mono ?_
            rintro e w4 ⟨rfl, hb4⟩
            obtain ⟨hc4, hf4⟩ := bcell hb4; have hz4 := hb4.size; (try simp at hz4); have HB4 := Lib.hid hb4; clear hb4
            have l4 : w.heap.size < w4.heap.size := by omega
            go_wp2_with fail
            go_region_with (first | (go_at_call 163; refine (HT2.out _).mono ?_; rintro e w6 ⟨rfl, hb6⟩; obtain ⟨hc6, hf6⟩ := bcell hb6; (try simp only [World.size_drew] at hc6 hf6); have hz6 := hb6.size; (try simp at hz6); have HB6 := Lib.hid hb6; clear hb6; have l6 : w.heap.size < w6.heap.size := (by omega)) | (go_at_call 149; refine (HA2.out _).mono ?_; rintro e w7 ⟨rfl, hb7⟩; obtain ⟨hc7, hf7⟩ := bcell hb7; (try simp only [World.size_drew] at hc7 hf7); have hz7 := hb7.size; (try simp at hz7); have HB7 := Lib.hid hb7; clear hb7; have l7 : w.heap.size < w7.heap.size := (by omega)))
            all_goals
              go_wp2
              go_roundw
              case rel =>
                have hbs := HBS.out
                have hb3 := HB3.out
                have hb4 := HB4.out
                have hb6 := HB6.out
                have hb7 := HB7.out
                refine ⟨j + 1, by omega, by go_num, ?_, by simp; omega, by (repeat' (first | (with_reducible assumption) | (with_reducible exact Below.refl _ _) | (with_reducible refine below_drewN ?_ _) | (with_reducible refine Below.drew ?_) | (with_reducible refine Below.alloc ?_ ?_ _) | (with_reducible refine Below.setCell ?_ ?_ _) | (with_reducible refine Below.trans ?_ (Below.mono (by assumption) ?_)) | (with_reducible exact Nat.le_refl _) | (with_reducible assumption) | omega | (simp; omega) | (simp; done)))⟩
                rw [HUP.out, ← fl_set]
                exact HSTO.out _ (HRs.out.below (w' := w7) (by (repeat' (first | (with_reducible assumption) | (with_reducible exact Below.refl _ _) | (with_reducible refine below_drewN ?_ _) | (with_reducible refine Below.drew ?_) | (with_reducible refine Below.alloc ?_ ?_ _) | (with_reducible refine Below.setCell ?_ ?_ _) | (with_reducible refine Below.trans ?_ (Below.mono (by assumption) ?_)) | (with_reducible exact Nat.le_refl _) | (with_reducible assumption) | omega | (simp; omega) | (simp; done))))) _
              case measure => (simp [intOf]; try omega)
        · obtain rfl : m = j := by omega
          rw [HEND'.out] at HRs
          have HBS := Lib.hid hbw; clear hbw
          go_wp2
          go_roundw
          case rel => exact ⟨a + 1, by omega, by go_num, HRs.out, hgl2, HBS.out⟩
          case measure => (simp [intOf]; try omega)
    · obtain rfl : m = a := by omega
      have HBW := Lib.hid hbw; clear hbw
      go_wp2_with fail
      refine (HSH.out _ _ HRr.out hgl').mono ?_
      rintro e w3 ⟨v3, rfl, hr3, hb3⟩
      have HR3 := Lib.hid hr3; clear hr3
      have HB3 := Lib.hid hb3; clear hb3
      go_wp2
      go_ret
      exact ⟨_, rfl, HR3.out.mono HBW.out.size, HBW.out.trans (HB3.out.mono HBW.out.size)⟩
theorem Row.lit0one (w : World) (a : Int) : Row (w.alloc (.cells #[.int .i64 a] 3)) w.heap.size (.slice (some ⟨w.heap.size, 0, none⟩) 1 1) (fl (one0 a) 1) := by
  have := World.ownsRow_lit (base := w.heap.size) (e := 3) (size := 1) w #[.int .i64 a] 1 (Nat.le_refl _) (by unfold maxLen; omega) rfl
  exact this
theorem one0_past (a : Int) : ∀ i, 1 ≤ i → one0 a i = 0 := fun i hi => if_neg (by omega)
end Go.Proofs.YtapglncgicfjnabGreat
