/- The walk of the general law FnPowersAndLogs (gen zf.py). -/
import Derived.Test.YtapglncgicfjnaaZC
import Derived.Test.YtapglncgicfjnaaZD
import Derived.Deep.RegionHeld3
import Derived.Deep.DeepCutAuto
namespace Go.Proofs.Ytapglncgicfjnaa
open Go.RowKit
set_option maxRecDepth 100000 in
set_option maxHeartbeats 40000000 in
/-- laws.FnPowersAndLogs. -/
theorem walk_FnPowersAndLogs (a0 : Option Addr) (n0 c0 : Nat) (z0 : List Int) (a1 : Option Addr) (n1 c1 : Nat) (z1 : List Int) (w : World) (h0 : IsRow .u8 w a0 n0 c0 z0) (h1 : IsRow .u8 w a1 n1 c1 z1) :
    Calls Try.prog 6 #[.slice a0 n0 c0, .slice a1 n1 c1] w fun e w' => e = .returned (.bool true) ∧ Below w.heap.size w w' := by
  by_cases hbg : n0 + n1 ≤ 1048576
  · have HBG := Lib.hid (big_no a0 a1 n0 c0 n1 c1 w hbg)
    have H0 := Lib.hid (h0.bys (by omega))
    have H1 := Lib.hid (h1.bys (by omega))
    clear h0 h1 hbg
    go_enter Try.func6, Try.ntmps6
    go_wp2_with fail
    refine HBG.out.mono ?_
    rintro e _ ⟨rfl, rfl⟩
    clear HBG
    go_wp2_with fail
    refine (drawPowerOf_any a0 n0 c0 _ H0.out).mono ?_
    rintro e wu1 ⟨q, a, k, rfl, hb⟩
    have HB1 := Lib.hid hb; clear hb
    obtain ⟨p, n, o, i1, i2, i3⟩ := ask_Power q a k
    have I1 := Lib.hid i1; clear i1
    have I2 := Lib.hid i2; clear i2
    have I3 := Lib.hid i3; clear i3
    go_wp2_with fail
    refine (I1.out _).mono ?_
    rintro e wu2 ⟨rfl, hb⟩
    have HB2 := Lib.hid hb; clear hb
    go_wp2_with fail
    refine (I2.out _).mono ?_
    rintro e wu3 ⟨rfl, hb⟩
    have HB3 := Lib.hid hb; clear hb
    go_upto_region 8 with (fail)
    go_cut [9, 11, 93] from 58 to 92 (fun s9 s11 s93 wx => s9 = .bool o ∧ s11 = .bool o ∧ s93 = .bool (o && decide (k < 1000)) ∧ Below w.heap.size w wx)
    case first =>
      cases o with
      | false =>
        go_wp2_with fail
        go_meet
        exact ⟨rfl, rfl, rfl, (stp (stp HB1.out HB2.out) HB3.out)⟩
      | true =>
        by_cases hk : k < 1000
        · go_wp2_with fail
          go_meet
          exact ⟨rfl, rfl, by simp [hk], (stp (stp HB1.out HB2.out) HB3.out)⟩
        · go_wp2_with fail
          go_meet
          exact ⟨rfl, rfl, by simp [hk], (stp (stp HB1.out HB2.out) HB3.out)⟩
    case rest =>
      obtain ⟨rfl, rfl, rfl, hbd⟩ := hcut
      obtain ⟨wd, rfl⟩ : ∃ z : World, z = wc := ⟨_, rfl⟩
      have HBD := Lib.hid hbd; clear hbd
      go_upto_if 93 with (fail)
      go_cut [4, 9, 11, 12, 13] from 93 to 119 (fun s4 _s9 _s11 _s12 _s13 wx => s4 = .bool false ∧ Below w.heap.size w wx)
      case first =>
        as_aux_lemma =>
        by_cases hc : o = true ∧ k < 1000
        · obtain ⟨rfl, hk⟩ := hc
          obtain ⟨h0, hw, j1, j2⟩ := I3.out rfl hk
          rw [show (true && decide (k < 1000)) = true by simp [hk]]
          have J1 := Lib.hid j1; clear j1
          have J2 := Lib.hid (j2 : ∀ w, _); clear j2
          go_wp2_with fail
          refine (J1.out _).mono ?_
          rintro e wu4 ⟨rfl, hb⟩
          have HB4 := Lib.hid hb; clear hb
          rcases (by omega : 0 < a ∨ (¬ 0 < a ∧ 0 ≤ k)) with ha | ⟨ha, hk0⟩
          ·
            go_wp2_with fail
            refine (J2.out _).mono ?_
            rintro e wu5 ⟨rfl, hb⟩
            have HB5 := Lib.hid hb; clear hb
            go_wp2_with fail
            go_meet
            exact ⟨rfl, (stp (stp HBD.out HB4.out) HB5.out)⟩
          ·
            go_wp2_with fail
            refine (J2.out _).mono ?_
            rintro e wu6 ⟨rfl, hb⟩
            have HB6 := Lib.hid hb; clear hb
            go_wp2_with fail
            go_meet
            exact ⟨rfl, (stp (stp HBD.out HB4.out) HB6.out)⟩
        · rw [show (o && decide (k < 1000)) = false by cases o <;> simp at hc ⊢; exact hc]
          clear hc
          go_wp2_with fail
          go_meet
          exact ⟨rfl, HBD.out⟩
      case rest =>
        as_aux_lemma =>
        obtain ⟨rfl, hbc⟩ := hcut
        obtain ⟨wc7, rfl⟩ : ∃ z : World, z = wc := ⟨_, rfl⟩
        have HBwc7 := Lib.hid hbc; clear hbc
        go_wp2_with fail
        refine (drawOrderOf_any a1 n1 c1 _ (H1.out.below HBwc7.out)).mono ?_
        rintro e wu8 ⟨r, x, rfl, hb⟩
        have HB8 := Lib.hid hb; clear hb
        obtain ⟨d, l, g, o, i1, i2, i3, i4, i5⟩ := ask_Order r x
        have I1 := Lib.hid i1; clear i1
        have I2 := Lib.hid i2; clear i2
        have I3 := Lib.hid i3; clear i3
        have I4 := Lib.hid i4; clear i4
        have I5 := Lib.hid i5; clear i5
        go_wp2_with fail
        refine (I1.out _).mono ?_
        rintro e wu9 ⟨rfl, hb⟩
        have HB9 := Lib.hid hb; clear hb
        go_wp2_with fail
        refine (I2.out _).mono ?_
        rintro e wu10 ⟨rfl, hb⟩
        have HB10 := Lib.hid hb; clear hb
        go_wp2_with fail
        refine (I3.out _).mono ?_
        rintro e wu11 ⟨rfl, hb⟩
        have HB11 := Lib.hid hb; clear hb
        go_wp2_with fail
        refine (I4.out _).mono ?_
        rintro e wu12 ⟨rfl, hb⟩
        have HB12 := Lib.hid hb; clear hb
        go_upto_if 172 with (fail)
        go_cut [4, 14, 15, 16, 17, 18, 19, 20, 21, 22, 23, 24, 25, 26, 27, 28, 29, 30, 31, 32] from 120 to 245 (fun s4 _s14 _s15 _s16 _s17 _s18 _s19 _s20 _s21 _s22 _s23 _s24 _s25 _s26 _s27 _s28 _s29 _s30 _s31 _s32 wx => s4 = .bool false ∧ Below w.heap.size w wx)
        case first =>
          as_aux_lemma =>
          cases o with
          | false =>
            go_wp2_with fail
            go_meet
            exact ⟨rfl, (stp (stp (stp (stp (stp HBwc7.out HB8.out) HB9.out) HB10.out) HB11.out) HB12.out)⟩
          | true =>
            obtain ⟨⟨r2, r16⟩, l0, l1, ⟨d1, d16⟩, hdiv, j1, j2, j3, m, Y, rfl, hY⟩ := I5.out rfl
            clear I5
            have J1 := Lib.hid j1; clear j1
            have J2 := Lib.hid j2; clear j2
            have J3 := Lib.hid j3; clear j3
            have HY := Lib.hid hY; clear hY
            have hw1 : IntKind.i64.wrap (r - 2) = r - 2 := IntWalk.i64_in _ (by omega)
            have hw2 : IntKind.i64.wrap (r - 1) = r - 1 := IntWalk.i64_in _ (by omega)
            have hm1 : (r - 1).tmod (m : Int) = 0 := by rw [Int.tmod_eq_emod_of_nonneg (by omega)]; exact hdiv
            have hm0 : ¬ (m : Int) = 0 := by omega
            have hl0 : ¬ l < 0 := by omega
            have hl1 : ¬ l > r - 2 := by omega
            go_wp2_with fail
            refine (J1.out _).mono ?_
            rintro e wu13 ⟨rfl, hb⟩
            have HB13 := Lib.hid hb; clear hb
            go_wp2_with fail
            refine (J2.out _).mono ?_
            rintro e wu14 ⟨rfl, hb⟩
            have HB14 := Lib.hid hb; clear hb
            go_wp2_with fail
            refine (J3.out _).mono ?_
            rintro e wu15 ⟨rfl, hb⟩
            have HB15 := Lib.hid hb; clear hb
            go_wp2_with fail
            clear hm1 hdiv hw1 hw2
            go_loopw [4, 30] (fun v4 vi wr => ∃ i : Nat, 1 ≤ i ∧ i ≤ m ∧ v4 = .bool false ∧ vi = .int .i64 i ∧ Below wu15.heap.size wu15 wr) (fun _ vi _ => m - (intOf vi).toNat)
            case atStart => exact ⟨1, Nat.le_refl _, by omega, rfl, rfl, Below.refl _ _⟩
            case round =>
              obtain ⟨i, hi1, hi, rfl, rfl, hb⟩ := hrel
              have HBW := Lib.hid hb; clear hb
              by_cases hlt : i < m
              · obtain ⟨y1, y2⟩ := HY.out i hi1 hlt
                have Y2 := Lib.hid y2; clear y2
                generalize Y i = y at *
                go_wp2_with fail
                refine (Y2.out _).mono ?_
                rintro e v1 ⟨rfl, hv⟩
                have HV := Lib.hid (HBW.out.trans (hv.mono HBW.out.size)); clear hv
                go_wp2
                go_roundw
                case rel => exact ⟨i + 1, by omega, by omega, rfl, by go_num, HV.out⟩
                case measure => simp [intOf]; omega
              · obtain rfl : m = i := by omega
                go_wp2_with fail
                go_meet
                exact ⟨rfl, stp (stp (stp (stp (stp (stp (stp (stp (stp HBwc7.out HB8.out) HB9.out) HB10.out) HB11.out) HB12.out) HB13.out) HB14.out) HB15.out) HBW.out⟩
        case rest =>
          as_aux_lemma =>
          obtain ⟨rfl, hbc⟩ := hcut
          obtain ⟨wc16, rfl⟩ : ∃ z : World, z = wc := ⟨_, rfl⟩
          have HBwc16 := Lib.hid hbc; clear hbc
          go_wp2_with fail
          refine (drawAllPrimitive_any a1 n1 c1 _ (H1.out.below HBwc16.out)).mono ?_
          rintro e wu17 ⟨s, rfl, hb⟩
          have HB17 := Lib.hid hb; clear hb
          obtain ⟨L, S, g, o, hl, hs, i1, i2, i3, i4, i5, i6, i7⟩ := ask_Prims s
          have HL := Lib.hid hl; clear hl
          have HS := Lib.hid hs; clear hs
          have I1 := Lib.hid i1; clear i1
          have I2 := Lib.hid i2; clear i2
          have I3 := Lib.hid i3; clear i3
          have I4 := Lib.hid i4; clear i4
          have I5 := Lib.hid i5; clear i5
          have I6 := Lib.hid i6; clear i6
          have I7 := Lib.hid i7; clear i7
          go_wp2_with fail
          refine (I1.out _).mono ?_
          rintro e wu18 ⟨v1, rfl, hr, hb⟩
          have S_v1 := Lib.hid hr.sl; clear hr
          have HB18 := Lib.hid hb; clear hb
          go_wp2_with fail
          refine (I2.out _).mono ?_
          rintro e wu19 ⟨v2, rfl, hr, hb⟩
          have S_v2 := Lib.hid hr.sl; clear hr
          have HB19 := Lib.hid hb; clear hb
          go_wp2_with fail
          refine (I3.out _).mono ?_
          rintro e wu20 ⟨rfl, hb⟩
          have HB20 := Lib.hid hb; clear hb
          go_wp2_with fail
          refine (I4.out _).mono ?_
          rintro e wu21 ⟨rfl, hb⟩
          have HB21 := Lib.hid hb; clear hb
          go_wp2_with fail
          refine (I5.out _).mono ?_
          rintro e wu22 ⟨v3, rfl, hr, hb⟩
          have S_v3 := Lib.hid hr.sl; clear hr
          have HB22 := Lib.hid hb; clear hb
          go_wp2_with fail
          refine (I6.out _).mono ?_
          rintro e wu23 ⟨v4, rfl, hr, hb⟩
          have S_v4 := Lib.hid hr.sl; clear hr
          have HB23 := Lib.hid hb; clear hb
          go_wp2_with fail
          refine (pSame_same v1 v2 L _ (S_v1.out.below (stp (stp (stp (stp HB19.out HB20.out) HB21.out) HB22.out) HB23.out) (Nat.le_refl _)) (S_v2.out.below (stp (stp (stp HB20.out HB21.out) HB22.out) HB23.out) (Nat.le_refl _)) HL.out).mono ?_
          rintro e wu24 ⟨rfl, hb⟩
          have HB24 := Lib.hid hb; clear hb
          go_wp2_with fail
          refine (pSame_same v3 v4 S _ (S_v3.out.below (stp HB23.out HB24.out) (Nat.le_refl _)) (S_v4.out.below HB24.out (Nat.le_refl _)) HS.out).mono ?_
          rintro e wu25 ⟨rfl, hb⟩
          have HB25 := Lib.hid hb; clear hb
          go_upto_if 318 with (fail)
          go_cut [4, 33, 34, 35, 36, 37, 38, 39, 40, 41, 42, 43, 44, 45, 46, 47, 48] from 246 to 380 (fun s4 _s33 _s34 _s35 _s36 _s37 _s38 _s39 _s40 _s41 _s42 _s43 _s44 _s45 _s46 _s47 _s48 wx => s4 = .bool false ∧ Below w.heap.size w wx)
          case first =>
            as_aux_lemma =>
            cases o with
            | false =>
              go_wp2_with fail
              go_meet
              exact ⟨rfl, (stp (stp (stp (stp (stp (stp (stp (stp (stp HBwc16.out HB17.out) HB18.out) HB19.out) HB20.out) HB21.out) HB22.out) HB23.out) HB24.out) HB25.out)⟩
            | true =>
              obtain ⟨m, O, rfl, m2, m16, hL0, hL16, hLg, ha1, ha2, he, hod, hO⟩ := I7.out rfl
              clear I7 I1 I2 I3 I4 I5 I6
              have HLG := Lib.hid hLg; clear hLg
              have HA1 := Lib.hid ha1; clear ha1
              have HA2 := Lib.hid ha2; clear ha2
              have HO := Lib.hid hO; clear hO
              have SV1 := Lib.hid (S_v1.out.below (stp (stp (stp (stp (stp (stp HB19.out HB20.out) HB21.out) HB22.out) HB23.out) HB24.out) HB25.out) (Nat.le_refl _))
              have SV3 := Lib.hid (S_v3.out.below (stp (stp HB23.out HB24.out) HB25.out) (Nat.le_refl _))
              obtain ⟨b1, o1, c1', rfl, hb1, hc1⟩ := SV1.out.open rfl hL0
              have e0 := hc1 0 hL0
              rw [HLG.out, Nat.add_zero] at e0
              clear hc1
              obtain ⟨a3, c3, rfl⟩ := SV3.out.form
              have hw1 : IntKind.i64.wrap ((m : Int) + 1) = (m : Int) + 1 := IntWalk.i64_in _ (by omega)
              have hw2 : IntKind.i64.wrap ((m : Int) - 1) = (m : Int) - 1 := IntWalk.i64_in _ (by omega)
              have HP1 := Lib.hid (pRising_yes _ L _ SV1.out HL.out HA1.out)
              have HP3 := Lib.hid (fun w' (hb : Below wu25.heap.size wu25 w') => pRising_yes _ S w' (SV3.out.below hb (Nat.le_refl _)) HS.out HA2.out)
              go_wp2_with fail
              refine (HP1.out).mono ?_
              rintro e wu26 ⟨rfl, hb⟩
              have HB26 := Lib.hid hb; clear hb
              go_wp2_with fail
              refine (HP3.out _ HB26.out).mono ?_
              rintro e wu27 ⟨rfl, hb⟩
              have HB27 := Lib.hid hb; clear hb
              have HT : Hid (∀ w' (x : Int), Below wu27.heap.size wu27 w' → Calls Try.prog 41 #[_, .int .i64 x] w' fun e w'' => e = .returned (.bool (decide (x ∈ L))) ∧ Below w'.heap.size w' w'') := Lib.hid fun w' x hb => pHas_any _ L x w' (SV1.out.below (stp (stp HB26.out HB27.out) hb) (Nat.le_refl _)) HL.out
              rcases (by omega : (m : Int) % 2 = 0 ∨ (m : Int) % 2 = 1) with hp | hp
              · have hlen := he hp
                have hp1 : (m : Int).tmod 2 = 0 := by rw [Int.tmod_eq_emod_of_nonneg (by omega)]; exact hp
                clear he hod
                go_wp2_with fail
                go_loopw [4, 46] (fun v4 vi wr => ∃ i : Nat, 1 ≤ i ∧ i ≤ m ∧ v4 = .bool false ∧ vi = .int .i64 i ∧ Below wu27.heap.size wu27 wr) (fun _ vi _ => m - (intOf vi).toNat)
                case atStart => exact ⟨1, Nat.le_refl _, by omega, rfl, rfl, Below.refl _ _⟩
                case round =>
                  obtain ⟨i, hi1, hi, rfl, rfl, hb⟩ := hrel
                  have HBW := Lib.hid hb; clear hb
                  by_cases hlt : i < m
                  · obtain ⟨y1, y2⟩ := HO.out i hi1 hlt
                    have Y2 := Lib.hid y2; clear y2
                    have HTI := Lib.hid (fun w' hb => HT.out w' (i : Int) hb)
                    rw [y1] at HTI
                    clear y1
                    generalize O i = y at *
                    by_cases hy : y = (m : Int) - 1
                    · rw [decide_eq_true hy] at HTI
                      go_wp2_with fail
                      refine (Y2.out _).mono ?_
                      rintro e v1 ⟨rfl, hv⟩
                      have HV := Lib.hid (HBW.out.trans (hv.mono HBW.out.size)); clear hv
                      go_wp2_with fail
                      refine (HTI.out _ HV.out).mono ?_
                      rintro e v2 ⟨rfl, hv⟩
                      have HV2 := Lib.hid (HV.out.trans (hv.mono HV.out.size)); clear hv
                      go_wp2
                      go_roundw
                      case rel => exact ⟨i + 1, by omega, by omega, rfl, by go_num, HV2.out⟩
                      case measure => simp [intOf]; omega
                    · rw [decide_eq_false hy] at HTI
                      go_wp2_with fail
                      refine (Y2.out _).mono ?_
                      rintro e v1 ⟨rfl, hv⟩
                      have HV := Lib.hid (HBW.out.trans (hv.mono HBW.out.size)); clear hv
                      go_wp2_with fail
                      refine (HTI.out _ HV.out).mono ?_
                      rintro e v2 ⟨rfl, hv⟩
                      have HV2 := Lib.hid (HV.out.trans (hv.mono HV.out.size)); clear hv
                      go_wp2
                      go_roundw
                      case rel => exact ⟨i + 1, by omega, by omega, rfl, by go_num, HV2.out⟩
                      case measure => simp [intOf]; omega
                  · obtain rfl : m = i := by omega
                    go_wp2_with fail
                    go_meet
                    exact ⟨rfl, stp (stp (stp (stp (stp (stp (stp (stp (stp (stp (stp (stp HBwc16.out HB17.out) HB18.out) HB19.out) HB20.out) HB21.out) HB22.out) HB23.out) HB24.out) HB25.out) HB26.out) HB27.out) HBW.out⟩
              · have hlen := hod hp
                have hp1 : (m : Int).tmod 2 = 1 := by rw [Int.tmod_eq_emod_of_nonneg (by omega)]; exact hp
                have hq : ((m : Int) + 1).tdiv 2 = ((m : Int) + 1) / 2 := Int.tdiv_eq_ediv_of_nonneg (by omega)
                clear he hod
                go_wp2_with fail
                go_loopw [4, 46] (fun v4 vi wr => ∃ i : Nat, 1 ≤ i ∧ i ≤ m ∧ v4 = .bool false ∧ vi = .int .i64 i ∧ Below wu27.heap.size wu27 wr) (fun _ vi _ => m - (intOf vi).toNat)
                case atStart => exact ⟨1, Nat.le_refl _, by omega, rfl, rfl, Below.refl _ _⟩
                case round =>
                  obtain ⟨i, hi1, hi, rfl, rfl, hb⟩ := hrel
                  have HBW := Lib.hid hb; clear hb
                  by_cases hlt : i < m
                  · obtain ⟨y1, y2⟩ := HO.out i hi1 hlt
                    have Y2 := Lib.hid y2; clear y2
                    have HTI := Lib.hid (fun w' hb => HT.out w' (i : Int) hb)
                    rw [y1] at HTI
                    clear y1
                    generalize O i = y at *
                    by_cases hy : y = (m : Int) - 1
                    · rw [decide_eq_true hy] at HTI
                      go_wp2_with fail
                      refine (Y2.out _).mono ?_
                      rintro e v1 ⟨rfl, hv⟩
                      have HV := Lib.hid (HBW.out.trans (hv.mono HBW.out.size)); clear hv
                      go_wp2_with fail
                      refine (HTI.out _ HV.out).mono ?_
                      rintro e v2 ⟨rfl, hv⟩
                      have HV2 := Lib.hid (HV.out.trans (hv.mono HV.out.size)); clear hv
                      go_wp2
                      go_roundw
                      case rel => exact ⟨i + 1, by omega, by omega, rfl, by go_num, HV2.out⟩
                      case measure => simp [intOf]; omega
                    · rw [decide_eq_false hy] at HTI
                      go_wp2_with fail
                      refine (Y2.out _).mono ?_
                      rintro e v1 ⟨rfl, hv⟩
                      have HV := Lib.hid (HBW.out.trans (hv.mono HBW.out.size)); clear hv
                      go_wp2_with fail
                      refine (HTI.out _ HV.out).mono ?_
                      rintro e v2 ⟨rfl, hv⟩
                      have HV2 := Lib.hid (HV.out.trans (hv.mono HV.out.size)); clear hv
                      go_wp2
                      go_roundw
                      case rel => exact ⟨i + 1, by omega, by omega, rfl, by go_num, HV2.out⟩
                      case measure => simp [intOf]; omega
                  · obtain rfl : m = i := by omega
                    go_wp2_with fail
                    go_meet
                    exact ⟨rfl, stp (stp (stp (stp (stp (stp (stp (stp (stp (stp (stp (stp HBwc16.out HB17.out) HB18.out) HB19.out) HB20.out) HB21.out) HB22.out) HB23.out) HB24.out) HB25.out) HB26.out) HB27.out) HBW.out⟩
          case rest =>
            as_aux_lemma =>
            obtain ⟨rfl, hbc⟩ := hcut
            obtain ⟨wc28, rfl⟩ : ∃ z : World, z = wc := ⟨_, rfl⟩
            have HBwc28 := Lib.hid hbc; clear hbc
            go_wp2_with fail
            refine (drawSumOfAll_any a1 n1 c1 _ (H1.out.below HBwc28.out)).mono ?_
            rintro e wu29 ⟨t, k, rfl, hb⟩
            have HB29 := Lib.hid hb; clear hb
            obtain ⟨v, d, o, i1, i2, i3⟩ := ask_Sum t k
            have I1 := Lib.hid i1; clear i1
            have I2 := Lib.hid i2; clear i2
            have I3 := Lib.hid i3; clear i3
            go_wp2_with fail
            refine (I1.out _).mono ?_
            rintro e wu30 ⟨rfl, hb⟩
            have HB30 := Lib.hid hb; clear hb
            go_wp2_with fail
            refine (I2.out _).mono ?_
            rintro e wu31 ⟨rfl, hb⟩
            have HB31 := Lib.hid hb; clear hb
            cases o with
            | false =>
              go_wp2
              go_ret
              exact ⟨rfl, (stp (stp (stp HBwc28.out HB29.out) HB30.out) HB31.out)⟩
            | true =>
              obtain ⟨⟨t2, t16⟩, ⟨k0, k1⟩, hv1, hv2, j1⟩ := I3.out rfl
              clear I3
              have J1 := Lib.hid j1; clear j1
              have hw : IntKind.i64.wrap (t - 1) = t - 1 := IntWalk.i64_in _ (by omega)
              have ht0 : ¬ t - 1 = 0 := by omega
              have htm : k.tmod (t - 1) = k % (t - 1) := Int.tmod_eq_emod_of_nonneg k0
              by_cases hk : 0 < k
              · by_cases hm : k % (t - 1) = 0
                · obtain rfl := hv1 ⟨hk, hm⟩
                  rw [hm] at htm
                  clear hv2 hv1
                  go_wp2_with fail
                  refine (J1.out _).mono ?_
                  rintro e wu32 ⟨rfl, hb⟩
                  have HB32 := Lib.hid hb; clear hb
                  go_wp2
                  go_ret
                  exact ⟨by first | rfl | simp, (stp (stp (stp (stp HBwc28.out HB29.out) HB30.out) HB31.out) HB32.out)⟩
                · obtain rfl := hv2 (fun h => hm h.2)
                  have hm2 : ¬ k.tmod (t - 1) = 0 := by rw [htm]; exact hm
                  clear hv1 htm
                  go_wp2
                  go_ret
                  exact ⟨by first | rfl | simp, (stp (stp (stp HBwc28.out HB29.out) HB30.out) HB31.out)⟩
              · obtain rfl := hv2 (fun h => hk h.1)
                clear hv1
                go_wp2
                go_ret
                exact ⟨by first | rfl | simp, (stp (stp (stp HBwc28.out HB29.out) HB30.out) HB31.out)⟩
  · have HBG := Lib.hid (big_yesZ a0 a1 n0 c0 n1 c1 w hbg)
    clear h0 h1 hbg
    go_enter Try.func6, Try.ntmps6
    go_wp2_with fail
    refine HBG.out.mono ?_
    rintro e _ ⟨rfl, rfl⟩
    go_wp2
    go_ret
    exact ⟨rfl, Below.refl _ _⟩
end Go.Proofs.Ytapglncgicfjnaa
