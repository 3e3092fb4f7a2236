/- The walk of the general law FnTracesAndNorms (gen zg.py). -/
import Derived.Test.YtapglncgicfjnaaZE
import Derived.Test.YtapglncgicfjnaaZD
import Derived.Deep.RegionHeld3
import Derived.Deep.DeepCutAuto
namespace Go.Proofs.Ytapglncgicfjnaa
open Go.RowKit
set_option maxRecDepth 100000 in
set_option maxHeartbeats 40000000 in
/-- laws.FnTracesAndNorms. -/
theorem walk_FnTracesAndNorms (a0 : Option Addr) (n0 c0 : Nat) (z0 : List Int) (a1 : Option Addr) (n1 c1 : Nat) (z1 : List Int) (w : World) (h0 : IsRow .u8 w a0 n0 c0 z0) (h1 : IsRow .u8 w a1 n1 c1 z1) :
    Calls Try.prog 7 #[.slice a0 n0 c0, .slice a1 n1 c1] w fun e w' => e = .returned (.bool true) ∧ Below w.heap.size w w' := by
  by_cases hbg : n0 + n1 ≤ 1048576
  · have HBG := Lib.hid (big_no a0 a1 n0 c0 n1 c1 w hbg)
    have H0 := Lib.hid (h0.bys (by omega))
    have H1 := Lib.hid (h1.bys (by omega))
    clear h0 h1 hbg
    go_enter Try.func7, Try.ntmps7
    go_wp2_with fail
    refine HBG.out.mono ?_
    rintro e _ ⟨rfl, rfl⟩
    clear HBG
    obtain ⟨N, hN⟩ : ∃ N, N = 7 * n0 + 3 * n1 := ⟨_, rfl⟩
    skip
    go_wp2_with fail
    refine (drawTraceOf_any a0 n0 c0 _ H0.out).mono ?_
    rintro e wu1 ⟨q, a, rfl, hb⟩
    have HB1 := Lib.hid hb; clear hb
    obtain ⟨tr, no, C, o, hl, i1, i2, i3, i4, i5, i6, i7⟩ := ask_Traces q a N
    have HL := Lib.hid hl; clear hl
    have I1 := Lib.hid i1; clear i1
    have I2 := Lib.hid i2; clear i2
    have I3 := Lib.hid i3; clear i3
    have I4 := Lib.hid i4; clear i4
    have I5 := Lib.hid i5; clear i5
    have I6 := Lib.hid i6; clear i6
    have I7 := Lib.hid i7; clear i7
    go_wp2_with fail
    refine (I1.out _).mono ?_
    rintro e wu2 ⟨rfl, hb⟩
    have HB2 := Lib.hid hb; clear hb
    go_wp2_with fail
    refine (I2.out _).mono ?_
    rintro e wu3 ⟨rfl, hb⟩
    have HB3 := Lib.hid hb; clear hb
    go_wp2_with fail
    refine (I3.out _).mono ?_
    rintro e wu4 ⟨rfl, hb⟩
    have HB4 := Lib.hid hb; clear hb
    go_wp2_with fail
    refine (I4.out _).mono ?_
    rintro e wu5 ⟨rfl, hb⟩
    have HB5 := Lib.hid hb; clear hb
    go_wp2_with fail
    refine (I5.out _).mono ?_
    rintro e wu6 ⟨v1, rfl, hr, hb⟩
    have S_v1 := Lib.hid hr.sl; clear hr
    have HB6 := Lib.hid hb; clear hb
    go_wp2_with fail
    refine (I6.out _).mono ?_
    rintro e wu7 ⟨v2, rfl, hr, hb⟩
    have S_v2 := Lib.hid hr.sl; clear hr
    have HB7 := Lib.hid hb; clear hb
    go_wp2_with fail
    refine (pSame_same v1 v2 C _ (S_v1.out.below HB7.out (Nat.le_refl _)) S_v2.out HL.out).mono ?_
    rintro e wu8 ⟨rfl, hb⟩
    have HB8 := Lib.hid hb; clear hb
    go_upto_if 135 with (fail)
    go_cut [4, 7, 8, 9, 10, 11, 12, 13, 14, 15, 16, 17, 18, 19, 20, 21, 22, 23, 24, 25, 26, 27, 28, 29, 30, 31, 32, 33, 34, 35, 36, 37, 38, 39, 40, 41] from 52 to 314 (fun s4 _s7 _s8 _s9 _s10 _s11 _s12 _s13 _s14 _s15 _s16 _s17 _s18 _s19 _s20 _s21 _s22 _s23 _s24 _s25 _s26 _s27 _s28 _s29 _s30 _s31 _s32 _s33 _s34 _s35 _s36 _s37 _s38 _s39 _s40 _s41 wx => s4 = .bool false ∧ Below w.heap.size w wx)
    case first =>
      as_aux_lemma =>
      cases o with
      | false =>
        go_wp2_with fail
        go_meet
        exact ⟨rfl, (stp (stp (stp (stp (stp (stp (stp HB1.out HB2.out) HB3.out) HB4.out) HB5.out) HB6.out) HB7.out) HB8.out)⟩
      | true =>
        obtain ⟨p, k, cn, d, b, ot, bo, fa, pd, fr, ab, mb, S, T, X, M, ⟨q2, q16⟩, p2, p13, k4, hcn, cn1, cn4, hkc, hd, d4, hc0, hb, ⟨t0, t1⟩, ⟨g0, g1⟩, ⟨x0, x1⟩, ⟨y0, y1⟩, hbo, hpd, j1, j2, j3, j4, j5, j6, j7, j8, j9, s0, s1, s2, z0, z1, z2, z3, z4⟩ := I7.out rfl
        clear I7 I1 I2 I3 I4 I5 I6
        have HBO := Lib.hid hbo; clear hbo
        have HPD := Lib.hid hpd; clear hpd
        have J1 := Lib.hid j1; clear j1
        have J2 := Lib.hid j2; clear j2
        have J3 := Lib.hid j3; clear j3
        have J4 := Lib.hid j4; clear j4
        have J5 := Lib.hid j5; clear j5
        have J6 := Lib.hid j6; clear j6
        have J7 := Lib.hid j7; clear j7
        have J8 := Lib.hid j8; clear j8
        have J9 := Lib.hid j9; clear j9
        have S0 := Lib.hid s0; clear s0
        have S1 := Lib.hid s1; clear s1
        have S2 := Lib.hid s2; clear s2
        have Z0 := Lib.hid z0; clear z0
        have Z1 := Lib.hid z1; clear z1
        have Z2 := Lib.hid z2; clear z2
        have Z3 := Lib.hid z3; clear z3
        have Z4 := Lib.hid z4; clear z4
        have SV1 := Lib.hid (S_v1.out.below (stp HB7.out HB8.out) (Nat.le_refl _))
        obtain ⟨b1, o1, c1', rfl, hb1, hc1⟩ := SV1.out.open rfl (by omega)
        have e0 := hc1 0 (by omega)
        rw [hc0, Nat.add_zero] at e0
        have HC1 := Lib.hid hc1; clear hc1 hc0
        have HCN := Lib.hid hcn
        rw [hcn] at HC1 ⊢
        clear hcn
        have hn := H0.out.1
        have hn' := H1.out.1
        have hN1 : IntKind.i64.wrap (7 * (n0 : Int)) = 7 * (n0 : Int) := IntWalk.i64_in _ (by omega)
        have hN2 : IntKind.i64.wrap (3 * (n1 : Int)) = 3 * (n1 : Int) := IntWalk.i64_in _ (by omega)
        have hN3 : IntKind.i64.wrap (7 * (n0 : Int) + 3 * (n1 : Int)) = 7 * (n0 : Int) + 3 * (n1 : Int) := IntWalk.i64_in _ (by omega)
        have hNb : (7 * (n0 : Int) + 3 * (n1 : Int)).tmod q = b := by rw [Int.tmod_eq_emod_of_nonneg (by omega), ← hb, hN, show ((7 * n0 + 3 * n1 : Nat) : Int) = 7 * (n0 : Int) + 3 * (n1 : Int) by omega]
        have hq0 : ¬ q = 0 := by omega
        clear hb hN
        go_wp2_with fail
        refine (J1.out _).mono ?_
        rintro e wu9 ⟨rfl, hb⟩
        have HB9 := Lib.hid hb; clear hb
        skip
        go_wp2_with fail
        refine (J2.out _).mono ?_
        rintro e wu10 ⟨rfl, hb⟩
        have HB10 := Lib.hid hb; clear hb
        go_wp2_with fail
        refine (J3.out _).mono ?_
        rintro e wu11 ⟨rfl, hb⟩
        have HB11 := Lib.hid hb; clear hb
        go_wp2_with fail
        refine (J4.out _).mono ?_
        rintro e wu12 ⟨rfl, hb⟩
        have HB12 := Lib.hid hb; clear hb
        go_wp2_with fail
        refine (J5.out _).mono ?_
        rintro e wu13 ⟨rfl, hb⟩
        have HB13 := Lib.hid hb; clear hb
        go_wp2_with fail
        refine (J6.out _).mono ?_
        rintro e wu14 ⟨rfl, hb⟩
        have HB14 := Lib.hid hb; clear hb
        go_wp2_with fail
        refine (J7.out _).mono ?_
        rintro e wu15 ⟨rfl, hb⟩
        have HB15 := Lib.hid hb; clear hb
        go_wp2_with fail
        refine (J8.out _).mono ?_
        rintro e wu16 ⟨rfl, hb⟩
        have HB16 := Lib.hid hb; clear hb
        go_wp2_with fail
        refine (J9.out _).mono ?_
        rintro e wu17 ⟨rfl, hb⟩
        have HB17 := Lib.hid hb; clear hb
        have hm1 : IntKind.i64.wrap (tr + ot) = tr + ot := IntWalk.i64_in _ (by omega)
        have hprod : 0 ≤ no * fa ∧ no * fa ≤ 169 := ⟨Int.mul_nonneg g0 y0, Int.le_trans (Int.mul_le_mul (show no ≤ 13 by omega) (show fa ≤ 13 by omega) y0 (by omega)) (by omega)⟩
        have hm2 : IntKind.i64.wrap (no * fa) = no * fa := IntWalk.i64_in _ (by omega)
        have hm3 : (tr + ot).tmod p = bo := by rw [Int.tmod_eq_emod_of_nonneg (by omega)]; exact HBO.out.symm
        have hm4 : (no * fa).tmod p = pd := by rw [Int.tmod_eq_emod_of_nonneg hprod.1]; exact HPD.out.symm
        have hp0 : ¬ p = 0 := by omega
        have hk0 : (k : Int).tmod (cn : Int) = 0 := by rw [Int.tmod_eq_emod_of_nonneg (by omega)]; omega
        have hcn0 : ¬ (cn : Int) = 0 := by omega
        have hkd : (k : Int).tdiv (cn : Int) = (d : Int) := by rw [Int.tdiv_eq_ediv_of_nonneg (by omega), ← hd]; rfl
        have f1 : ¬ tr < 0 := by omega
        have f2 : ¬ tr ≥ p := by omega
        have f3 : ¬ no < 0 := by omega
        have f4 : ¬ no ≥ p := by omega
        have e1 : wu17.cell? ⟨b1, o1, none⟩ = some (.int .i64 a) := ((stp (stp (stp (stp (stp (stp (stp (stp HB9.out HB10.out) HB11.out) HB12.out) HB13.out) HB14.out) HB15.out) HB16.out) HB17.out).cell (p := ⟨b1, o1, none⟩) hb1).trans e0
        have hbu : b1 < wu17.heap.size := by have := (stp (stp (stp (stp (stp (stp (stp (stp HB9.out HB10.out) HB11.out) HB12.out) HB13.out) HB14.out) HB15.out) HB16.out) HB17.out).size; omega
        have HKC : Hid (∀ w', Below wu17.heap.size wu17 w' → ∀ i, i < cn → w'.cell? ⟨b1, o1 + i, none⟩ = some (.int .i64 (C.getD i 0))) := Lib.hid fun w' hb i hi => ((stp (stp (stp (stp (stp (stp (stp (stp (stp HB9.out HB10.out) HB11.out) HB12.out) HB13.out) HB14.out) HB15.out) HB16.out) HB17.out) hb).cell (p := ⟨b1, o1 + i, none⟩) hb1).trans (HC1.out i hi)
        have hcn1 : 0 < cn := cn1
        clear e0 hprod
        go_upto_region 23 with (fail)
        clear hm1 hm2 hm3 hm4 hk0 e1
        go_wp2_with fail
        go_loopw [35, 36, 277] (fun va vp vi wr => ∃ i : Nat, i ≤ cn ∧ vi = .int .i64 i ∧ va = .int .i64 (S i) ∧ vp = .int .i64 (T i) ∧ Below wu17.heap.size wu17 wr) (fun _ _ vi _ => cn - (intOf vi).toNat)
        case atStart => exact ⟨0, Nat.zero_le _, rfl, by rw [S0.out], by rw [S1.out], Below.refl _ _⟩
        case round =>
          obtain ⟨i, hi, rfl, rfl, rfl, hbw⟩ := hrel
          obtain ⟨wo, rfl⟩ : ∃ z : World, z = wr := ⟨_, rfl⟩
          have HBW := Lib.hid hbw; clear hbw
          by_cases hlt : i < cn
          · have e1 := HKC.out _ HBW.out i hlt
            obtain ⟨t2, t3⟩ := S2.out i hlt
            have T2 := Lib.hid (show ∀ w, _ from t2)
            have T3 := Lib.hid (show ∀ w, _ from t3)
            have l1 : b1 < wo.heap.size := by have := HBW.out.size; omega
            clear t2 t3
            generalize C.getD i 0 = c at *
            generalize S i = si at *
            generalize T i = ti at *
            go_wp2_with fail
            refine (T2.out _).mono ?_
            rintro e y1 ⟨rfl, hy1⟩
            have HY1 := Lib.hid (stp HBW.out hy1); clear hy1
            go_wp2_with fail
            refine (T3.out _).mono ?_
            rintro e y2 ⟨rfl, hy2⟩
            have HY2 := Lib.hid (stp HY1.out hy2); clear hy2
            go_wp2_with fail
            go_roundw
            case rel => exact ⟨i + 1, by omega, by go_num, rfl, rfl, HY2.out⟩
            case measure => simp [intOf]; omega
          · obtain rfl : cn = i := by omega
            go_wp2_with fail
            go_loopw [39, 40, 41] (fun va vp vi wr => ∃ i : Nat, i ≤ d ∧ vi = .int .i64 i ∧ va = .int .i64 (X i) ∧ vp = .int .i64 (M i) ∧ Below wo.heap.size wo wr) (fun _ _ vi _ => d - (intOf vi).toNat)
            case atStart => exact ⟨0, Nat.zero_le _, rfl, by rw [Z0.out], by rw [Z1.out], Below.refl _ _⟩
            case round =>
              obtain ⟨i, hi, rfl, rfl, rfl, hbw⟩ := hrel
              have HBX := Lib.hid hbw; clear hbw
              by_cases hlt : i < d
              · obtain ⟨t2, t3⟩ := Z4.out i hlt
                have T2 := Lib.hid (show ∀ w, _ from t2)
                have T3 := Lib.hid (show ∀ w, _ from t3)
                clear t2 t3
                generalize X i = si at *
                generalize M i = ti at *
                generalize S cn = sc at *
                generalize T cn = tc at *
                go_wp2_with fail
                refine (T2.out _).mono ?_
                rintro e y1 ⟨rfl, hy1⟩
                have HY1 := Lib.hid (stp HBX.out hy1); clear hy1
                go_wp2_with fail
                refine (T3.out _).mono ?_
                rintro e y2 ⟨rfl, hy2⟩
                have HY2 := Lib.hid (stp HY1.out hy2); clear hy2
                go_wp2_with fail
                go_roundw
                case rel => exact ⟨i + 1, by omega, by go_num, rfl, rfl, HY2.out⟩
                case measure => simp [intOf]; omega
              · obtain rfl : d = i := by omega
                rw [Z2.out, Z3.out]
                go_wp2_with fail
                go_meet
                exact ⟨rfl, stp (stp (stp (stp (stp (stp (stp (stp (stp (stp (stp (stp (stp (stp (stp (stp (stp (stp HB1.out HB2.out) HB3.out) HB4.out) HB5.out) HB6.out) HB7.out) HB8.out) HB9.out) HB10.out) HB11.out) HB12.out) HB13.out) HB14.out) HB15.out) HB16.out) HB17.out) HBW.out) HBX.out⟩
    case rest =>
      as_aux_lemma =>
      obtain ⟨rfl, hbc⟩ := hcut
      obtain ⟨wc18, rfl⟩ : ∃ z : World, z = wc := ⟨_, rfl⟩
      have HBwc18 := Lib.hid hbc; clear hbc
      go_wp2_with fail
      refine (drawSubfieldOf_any a1 n1 c1 _ (H1.out.below HBwc18.out)).mono ?_
      rintro e wu19 ⟨r, s, rfl, hb⟩
      have HB19 := Lib.hid hb; clear hb
      obtain ⟨L, o, hl, i1, i2, i3⟩ := ask_Sub r s
      have HL := Lib.hid hl; clear hl
      have I1 := Lib.hid i1; clear i1
      have I2 := Lib.hid i2; clear i2
      have I3 := Lib.hid i3; clear i3
      go_wp2_with fail
      refine (I1.out _).mono ?_
      rintro e wu20 ⟨v1, rfl, hr, hb⟩
      have S_v1 := Lib.hid hr.sl; clear hr
      have HB20 := Lib.hid hb; clear hb
      go_wp2_with fail
      refine (I2.out _).mono ?_
      rintro e wu21 ⟨v2, rfl, hr, hb⟩
      have S_v2 := Lib.hid hr.sl; clear hr
      have HB21 := Lib.hid hb; clear hb
      go_wp2_with fail
      refine (pSame_same v1 v2 L _ (S_v1.out.below HB21.out (Nat.le_refl _)) S_v2.out HL.out).mono ?_
      rintro e wu22 ⟨rfl, hb⟩
      have HB22 := Lib.hid hb; clear hb
      cases o with
      | false =>
        go_wp2
        go_ret
        exact ⟨rfl, (stp (stp (stp (stp HBwc18.out HB19.out) HB20.out) HB21.out) HB22.out)⟩
      | true =>
        obtain ⟨n, hn, rfl, n2, n16, ha, h0, h1, P, V, hPV⟩ := I3.out rfl
        clear I3 I1 I2
        have HA := Lib.hid ha; clear ha
        have HPV := Lib.hid hPV; clear hPV
        have HN := Lib.hid hn
        have SV1 := Lib.hid (S_v1.out.below (stp HB21.out HB22.out) (Nat.le_refl _))
        obtain ⟨b1, o1, c1', rfl, hb1, hc1⟩ := SV1.out.open rfl (by omega)
        have HC1 := Lib.hid hc1; clear hc1
        have HP1 := Lib.hid (pRising_yes _ L _ SV1.out HL.out HA.out)
        have HT : Hid (∀ w' (x : Int), Below wu22.heap.size wu22 w' → Calls Try.prog 41 #[_, .int .i64 x] w' fun e w'' => e = .returned (.bool (decide (x ∈ L))) ∧ Below w'.heap.size w' w'') := Lib.hid fun w' x hb => pHas_any _ L x w' (SV1.out.below hb (Nat.le_refl _)) HL.out
        have HT0 := Lib.hid (fun w' hb => HT.out w' 0 hb)
        have HT1 := Lib.hid (fun w' hb => HT.out w' 1 hb)
        rw [h0] at HT0
        rw [h1] at HT1
        clear h0 h1
        rw [hn] at HC1 HP1 HT HT0 HT1 ⊢
        clear hn
        go_wp2_with fail
        refine (HP1.out).mono ?_
        rintro e wu23 ⟨rfl, hb⟩
        have HB23 := Lib.hid hb; clear hb
        go_wp2_with fail
        refine (HT0.out _ HB23.out).mono ?_
        rintro e wu24 ⟨rfl, hb⟩
        have HB24 := Lib.hid hb; clear hb
        go_wp2_with fail
        refine (HT1.out _ (stp HB23.out HB24.out)).mono ?_
        rintro e wu25 ⟨rfl, hb⟩
        have HB25 := Lib.hid hb; clear hb
        go_wp2_with fail
        clear HP1 HT0 HT1
        have HKC : Hid (∀ w', Below wu25.heap.size wu25 w' → ∀ i, i < n → w'.cell? ⟨b1, o1 + i, none⟩ = some (.int .i64 (L.getD i 0))) := Lib.hid fun w' hb i hi => ((stp (stp (stp HB23.out HB24.out) HB25.out) hb).cell (p := ⟨b1, o1 + i, none⟩) hb1).trans (HC1.out i hi)
        have HTU : Hid (∀ w' (x : Int), Below wu25.heap.size wu25 w' → _) := Lib.hid fun w' x hb => HT.out w' x (stp (stp (stp HB23.out HB24.out) HB25.out) hb)
        have hbu : b1 < wu25.heap.size := by have := (stp (stp HB23.out HB24.out) HB25.out).size; omega
        clear HT HC1
        go_loopw [362] (fun vi wr => ∃ i : Nat, i ≤ n ∧ vi = .int .i64 i ∧ Below wu25.heap.size wu25 wr) (fun vi _ => n - (intOf vi).toNat)
        case atStart => exact ⟨0, Nat.zero_le _, rfl, Below.refl _ _⟩
        case round =>
          obtain ⟨i, hi, rfl, hbw⟩ := hrel
          obtain ⟨wo, rfl⟩ : ∃ z : World, z = wr := ⟨_, rfl⟩
          have HBW := Lib.hid hbw; clear hbw
          by_cases hlt : i < n
          · have e1 := HKC.out _ HBW.out i hlt
            have l1 : b1 < wo.heap.size := by have := HBW.out.size; omega
            have HIJ := Lib.hid (fun j hj => HPV.out i j hlt hj)
            generalize L.getD i 0 = x at *
            go_wp2_with fail
            clear e1
            go_loopw [368] (fun vj ws => ∃ j : Nat, j ≤ n ∧ vj = .int .i64 j ∧ Below wo.heap.size wo ws) (fun vj _ => n - (intOf vj).toNat)
            case atStart => exact ⟨0, Nat.zero_le _, rfl, Below.refl _ _⟩
            case round =>
              obtain ⟨j, hj, rfl, hbw⟩ := hrel
              have HBS := Lib.hid hbw; clear hbw
              have HBT := Lib.hid (stp HBW.out HBS.out)
              by_cases hlt2 : j < n
              · have e1 := HKC.out _ HBT.out j hlt2
                have l1 : b1 < wr.heap.size := by have := HBT.out.size; omega
                obtain ⟨t1, t2, t3, t4⟩ := HIJ.out j hlt2
                have T1 := Lib.hid (show ∀ w, _ from t1)
                have T2 := Lib.hid (show ∀ w, _ from t2)
                have HX := Lib.hid (fun w' hb => HTU.out w' (P i j) hb)
                have HY := Lib.hid (fun w' hb => HTU.out w' (V i j) hb)
                rw [t3] at HX
                rw [t4] at HY
                clear t1 t2 t3 t4
                generalize L.getD j 0 = y at *
                generalize P i j = pp at *
                generalize V i j = vv at *
                go_wp2_with fail
                refine (T1.out _).mono ?_
                rintro e y1 ⟨rfl, hy1⟩
                have HY1 := Lib.hid (stp HBT.out hy1)
                have HZ1 := Lib.hid (stp HBS.out hy1); clear hy1
                go_wp2_with fail
                refine (HX.out _ HY1.out).mono ?_
                rintro e y2 ⟨rfl, hy2⟩
                have HY2 := Lib.hid (stp HY1.out hy2)
                have HZ2 := Lib.hid (stp HZ1.out hy2); clear hy2
                go_wp2_with fail
                refine (T2.out _).mono ?_
                rintro e y3 ⟨rfl, hy3⟩
                have HY3 := Lib.hid (stp HY2.out hy3)
                have HZ3 := Lib.hid (stp HZ2.out hy3); clear hy3
                go_wp2_with fail
                refine (HY.out _ HY3.out).mono ?_
                rintro e y4 ⟨rfl, hy4⟩
                have HZ4 := Lib.hid (stp HZ3.out hy4); clear hy4
                go_wp2
                go_roundw
                case rel => exact ⟨j + 1, by omega, by go_num, HZ4.out⟩
                case measure => simp [intOf]; omega
              · obtain rfl : n = j := by omega
                go_wp2
                go_roundw
                case rel => exact ⟨i + 1, by omega, by go_num, HBT.out⟩
                case measure => simp [intOf]; omega
          · obtain rfl : n = i := by omega
            go_wp2
            go_ret
            exact ⟨rfl, stp (stp (stp (stp (stp (stp (stp (stp HBwc18.out HB19.out) HB20.out) HB21.out) HB22.out) HB23.out) HB24.out) HB25.out) HBW.out⟩
  · have HBG := Lib.hid (big_yesZ a0 a1 n0 c0 n1 c1 w hbg)
    clear h0 h1 hbg
    go_enter Try.func7, Try.ntmps7
    go_wp2_with fail
    refine HBG.out.mono ?_
    rintro e _ ⟨rfl, rfl⟩
    go_wp2
    go_ret
    exact ⟨rfl, Below.refl _ _⟩
end Go.Proofs.Ytapglncgicfjnaa
