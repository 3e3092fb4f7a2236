/- The walk of the general law FnTablesAndPolynomials (gen yd.py). -/
import Derived.Test.YtljijnanmpajaaaGreatYA
import Derived.Test.YtljijnanmpajaaaGreatYB
import Derived.Test.YtljijnanmpajaaaGreatZB
import Derived.Deep.RegionHeld3
import Derived.Deep.DeepCutAuto
namespace Go.Proofs.YtljijnanmpajaaaGreat
open Go.RowKit
set_option maxRecDepth 100000 in
set_option maxHeartbeats 40000000 in
/-- laws.FnTablesAndPolynomials. -/
theorem walk_FnTablesAndPolynomials (a0 : Option Addr) (n0 c0 : Nat) (z0 : List Int) (a1 : Option Addr) (n1 c1 : Nat) (z1 : List Int) (w : World) (h0 : IsRow .u8 w a0 n0 c0 z0) (h1 : IsRow .u8 w a1 n1 c1 z1) :
    Calls Tryz.prog 3 #[.slice a0 n0 c0, .slice a1 n1 c1] w fun e w' => e = .returned (.bool true) ∧ Below w.heap.size w w' := by
  by_cases hbg : n0 + n1 ≤ 1048576
  · have HBG := Lib.hid (big_no a0 a1 n0 c0 n1 c1 w hbg)
    have H0 := Lib.hid (h0.bys (by omega))
    have H1 := Lib.hid (h1.bys (by omega))
    clear h0 h1 hbg
    go_enter Tryz.func3, Tryz.ntmps3
    go_wp2_with fail
    refine HBG.out.mono ?_
    rintro e _ ⟨rfl, rfl⟩
    clear HBG
    go_wp2_with fail
    refine (drawTableOf_any a0 n0 c0 _ H0.out).mono ?_
    rintro e wu1 ⟨q, v0, l, rfl, hl48, hr, hb⟩
    have S_v0 := Lib.hid hr.sl; clear hr
    have HB1 := Lib.hid hb; clear hb
    have hl20 : l.length ≤ 1048576 := by omega
    obtain ⟨T, d, o, hl, i1, i2, i3, i4, i5⟩ := ask_Tables q l hl20
    have HL := Lib.hid hl; clear hl
    have HL0 := Lib.hid hl20; clear hl20 hl48
    have I1 := Lib.hid i1; clear i1
    have I2 := Lib.hid i2; clear i2
    have I3 := Lib.hid i3; clear i3
    have I4 := Lib.hid i4; clear i4
    have I5 := Lib.hid i5; clear i5
    go_wp2_with fail
    refine (I1.out _ v0 S_v0.out).mono ?_
    rintro e wu2 ⟨v1, rfl, hr, hb⟩
    have S_v1 := Lib.hid hr.sl; clear hr
    have HB2 := Lib.hid hb; clear hb
    go_wp2_with fail
    refine (I2.out _ v0 (S_v0.out.below HB2.out (Nat.le_refl _))).mono ?_
    rintro e wu3 ⟨v2, rfl, hr, hb⟩
    have S_v2 := Lib.hid hr.sl; clear hr
    have HB3 := Lib.hid hb; clear hb
    go_wp2_with fail
    refine (I3.out _ v0 (S_v0.out.below (stp HB2.out HB3.out) (Nat.le_refl _))).mono ?_
    rintro e wu4 ⟨rfl, hb⟩
    have HB4 := Lib.hid hb; clear hb
    go_wp2_with fail
    refine (I4.out _ v0 (S_v0.out.below (stp (stp HB2.out HB3.out) HB4.out) (Nat.le_refl _))).mono ?_
    rintro e wu5 ⟨rfl, hb⟩
    have HB5 := Lib.hid hb; clear hb
    go_wp2_with fail
    refine (pSame_same v1 v2 T _ (S_v1.out.below (stp (stp HB3.out HB4.out) HB5.out) (Nat.le_refl _)) (S_v2.out.below (stp HB4.out HB5.out) (Nat.le_refl _)) HL.out).mono ?_
    rintro e wu6 ⟨rfl, hb⟩
    have HB6 := Lib.hid hb; clear hb
    go_upto_if 117 with (fail)
    go_cut [4, 7, 8, 9, 10, 11, 12, 13, 14, 15, 16, 17, 18, 19, 20, 21, 22, 23, 24] from 61 to 188 (fun s4 _s7 _s8 _s9 _s10 _s11 _s12 _s13 _s14 _s15 _s16 _s17 _s18 _s19 _s20 _s21 _s22 _s23 _s24 wx => s4 = .bool false ∧ Below w.heap.size w wx)
    case first =>
      cases o with
      | false =>
        go_wp2_with fail
        go_meet
        exact ⟨rfl, (stp (stp (stp (stp (stp HB1.out HB2.out) HB3.out) HB4.out) HB5.out) HB6.out)⟩
      | true =>
        obtain ⟨m, rfl, hT, m16, m2, hl16, j1, j2, j3, j4⟩ := I5.out rfl
        clear I5 I1 I2 I3 I4
        have J1 := Lib.hid j1; clear j1
        have J2 := Lib.hid j2; clear j2
        have J3 := Lib.hid j3; clear j3
        have J4 := Lib.hid j4; clear j4
        have HTM := Lib.hid hT; clear hT
        obtain ⟨fa, fc, rfl⟩ := (S_v0.out.below (stp (stp (stp (stp HB2.out HB3.out) HB4.out) HB5.out) HB6.out) (Nat.le_refl _)).form
        obtain ⟨ta, tc, rfl⟩ := (S_v1.out.below (stp (stp (stp HB3.out HB4.out) HB5.out) HB6.out) (Nat.le_refl _)).form
        have hwl : IntKind.i64.wrap ((l.length : Int) - 1) = (l.length : Int) - 1 := IntWalk.i64_in _ (by omega)
        have S_V := Lib.hid (S_v0.out.below (stp (stp (stp (stp HB2.out HB3.out) HB4.out) HB5.out) HB6.out) (Nat.le_refl _))
        have S_T := Lib.hid (S_v1.out.below (stp (stp (stp HB3.out HB4.out) HB5.out) HB6.out) (Nat.le_refl _))
        go_wp2_with fail
        refine (J1.out _ _ S_T.out).mono ?_
        rintro e wu7 ⟨v3, rfl, hr, hb⟩
        have S_v3 := Lib.hid hr.sl; clear hr
        have HB7 := Lib.hid hb; clear hb
        go_wp2_with fail
        refine (J2.out _ _ (S_V.out.below HB7.out (Nat.le_refl _))).mono ?_
        rintro e wu8 ⟨rfl, hb⟩
        have HB8 := Lib.hid hb; clear hb
        go_wp2_with fail
        refine (J3.out _ _ (S_T.out.below (stp HB7.out HB8.out) (Nat.le_refl _))).mono ?_
        rintro e wu9 ⟨rfl, hb⟩
        have HB9 := Lib.hid hb; clear hb
        go_wp2_with fail
        refine (pSame_same v3 _ l _ (S_v3.out.below (stp HB8.out HB9.out) (Nat.le_refl _)) (S_V.out.below (stp (stp HB7.out HB8.out) HB9.out) (Nat.le_refl _)) HL0.out).mono ?_
        rintro e wu10 ⟨rfl, hb⟩
        have HB10 := Lib.hid hb; clear hb
        have HC : Hid (∀ i, i < m → ∃ b off, ta = some ⟨b, off, none⟩ ∧ b < wu10.heap.size ∧ wu10.cell? ⟨b, off + i, none⟩ = some (.int .i64 (T.getD i 0))) := Lib.hid fun i hi => by
          obtain ⟨b, off, cp, e, hb, hc⟩ := ((S_T.out.below (stp (stp (stp HB7.out HB8.out) HB9.out) HB10.out) (Nat.le_refl _))).open HTM.out (by omega)
          cases e
          exact ⟨b, off, rfl, hb, hc i hi⟩
        have HSV : Hid (∀ w', Below wu10.heap.size wu10 w' → Sl w' _ l) := Lib.hid fun w' hb => (S_V.out.below (stp (stp (stp HB7.out HB8.out) HB9.out) HB10.out) (Nat.le_refl _)).below hb (Nat.le_refl _)
        rw [HTM.out]
        go_wp2_with fail
        clear hwl
        go_loopw [4, 169] (fun v4 vi wr => ∃ i : Nat, i ≤ m ∧ v4 = .bool false ∧ vi = .int .i64 i ∧ Below wu10.heap.size wu10 wr) (fun _ vi _ => m - (intOf vi).toNat)
        case atStart => exact ⟨0, Nat.zero_le _, rfl, rfl, Below.refl _ _⟩
        case round =>
          obtain ⟨i, hi, rfl, rfl, hb⟩ := hrel
          have HBW := Lib.hid hb; clear hb
          by_cases hlt : i < m
          · obtain ⟨b, off, rfl, hbl, hcl⟩ := HC.out i hlt
            have e1 := (HBW.out.cell (p := ⟨b, off + i, none⟩) hbl).trans hcl
            have KA := Lib.hid (fun w v hv => J4.out i w v hlt hv)
            have l1 : b < wr.heap.size := by have := HBW.out.size; omega
            clear hcl
            generalize T.getD i 0 = y at *
            go_wp2_with fail
            refine (KA.out _ _ (HSV.out _ HBW.out)).mono ?_
            rintro e y1 ⟨rfl, hy⟩
            have HY1 := Lib.hid (stp HBW.out hy); clear hy
            go_wp2
            go_roundw
            case rel => exact ⟨i + 1, by omega, rfl, by go_num, HY1.out⟩
            case measure => first | (simp [intOf]; done) | (simp [intOf]; omega)
          · obtain rfl : m = i := by omega
            go_wp2_with fail
            go_meet
            exact ⟨rfl, stp (stp (stp (stp (stp (stp (stp (stp (stp (stp HB1.out HB2.out) HB3.out) HB4.out) HB5.out) HB6.out) HB7.out) HB8.out) HB9.out) HB10.out) HBW.out⟩
    case rest =>
      obtain ⟨rfl, hbc⟩ := hcut
      obtain ⟨wc11, rfl⟩ : ∃ z : World, z = wc := ⟨_, rfl⟩
      have HBwc11 := Lib.hid hbc; clear hbc
      go_wp2_with fail
      refine (drawPolyOf_any a1 n1 c1 _ (H1.out.below HBwc11.out)).mono ?_
      rintro e wu12 ⟨r, v0, t, rfl, hl48, hr, hb⟩
      have S_v0 := Lib.hid hr.sl; clear hr
      have HB12 := Lib.hid hb; clear hb
      have hl20 : t.length ≤ 1048576 := by omega
      obtain ⟨F, is, o, o2, hl, i1, i2, i3, i4, i5⟩ := ask_Polys r t hl20
      have HL := Lib.hid hl; clear hl
      have HL0 := Lib.hid hl20; clear hl20 hl48
      have HIS : Hid (o = true → is = true) := Lib.hid fun e => (i5 e).1
      have I1 := Lib.hid i1; clear i1
      have I2 := Lib.hid i2; clear i2
      have I3 := Lib.hid i3; clear i3
      have I4 := Lib.hid i4; clear i4
      have I5 := Lib.hid i5; clear i5
      go_wp2_with fail
      refine (I1.out _ v0 S_v0.out).mono ?_
      rintro e wu13 ⟨v1, rfl, hr, hb⟩
      have S_v1 := Lib.hid hr.sl; clear hr
      have HB13 := Lib.hid hb; clear hb
      go_wp2_with fail
      refine (I2.out _ v0 (S_v0.out.below HB13.out (Nat.le_refl _))).mono ?_
      rintro e wu14 ⟨v2, rfl, hr, hb⟩
      have S_v2 := Lib.hid hr.sl; clear hr
      have HB14 := Lib.hid hb; clear hb
      go_wp2_with fail
      refine (I3.out _ v0 (S_v0.out.below (stp HB13.out HB14.out) (Nat.le_refl _))).mono ?_
      rintro e wu15 ⟨rfl, hb⟩
      have HB15 := Lib.hid hb; clear hb
      go_wp2_with fail
      refine (I4.out _ v0 (S_v0.out.below (stp (stp HB13.out HB14.out) HB15.out) (Nat.le_refl _))).mono ?_
      rintro e wu16 ⟨rfl, hb⟩
      have HB16 := Lib.hid hb; clear hb
      have HPS := Lib.hid (pSame_same v1 v2 F _ (S_v1.out.below (stp (stp HB14.out HB15.out) HB16.out) (Nat.le_refl _)) (S_v2.out.below (stp HB15.out HB16.out) (Nat.le_refl _)) HL.out)
      go_upto_region 28 with (fail)
      go_cut [28, 30, 31, 33, 243] from 190 to 242 (fun s28 s30 s31 s33 s243 wx => s28 = .bool o ∧ s30 = .bool o ∧ s31 = .bool is ∧ s33 = .bool is ∧ s243 = .bool false ∧ Below wu16.heap.size wu16 wx)
      case first =>
        cases o with
        | false =>
          go_wp2_with fail
          refine HPS.out.mono ?_
          rintro e y1 ⟨rfl, hy⟩
          have HY := Lib.hid hy; clear hy
          go_wp2_with fail
          go_meet
          exact ⟨rfl, rfl, rfl, rfl, by first | rfl | simp, HY.out⟩
        | true =>
          obtain rfl : is = true := HIS.out rfl
          go_wp2_with fail
          refine HPS.out.mono ?_
          rintro e y1 ⟨rfl, hy⟩
          have HY := Lib.hid hy; clear hy
          go_wp2_with fail
          go_meet
          exact ⟨rfl, rfl, rfl, rfl, by first | rfl | simp, HY.out⟩
      case rest =>
        obtain ⟨rfl, rfl, rfl, rfl, rfl, hbd⟩ := hcut
        obtain ⟨wd, rfl⟩ : ∃ z : World, z = wc := ⟨_, rfl⟩
        have HBD := Lib.hid hbd; clear hbd
        go_upto_if 244 with (fail)
        go_cut [4, 27, 28, 29, 30, 31, 32, 33, 34, 35, 36] from 243 to 258 (fun s4 _s27 _s28 _s29 _s30 _s31 _s32 _s33 _s34 _s35 _s36 wx => s4 = .bool false ∧ Below w.heap.size w wx)
        case first =>
          cases o with
          | false =>
            go_wp2_with fail
            go_meet
            exact ⟨rfl, (stp (stp (stp (stp (stp (stp HBwc11.out HB12.out) HB13.out) HB14.out) HB15.out) HB16.out) HBD.out)⟩
          | true =>
            have J5 := Lib.hid (I5.out rfl).2; clear I5
            go_wp2_with fail
            refine (J5.out _ v1 (S_v1.out.below (stp (stp (stp HB14.out HB15.out) HB16.out) HBD.out) (Nat.le_refl _))).mono ?_
            rintro e wu17 ⟨v3, rfl, hr, hb⟩
            have S_v3 := Lib.hid hr.sl; clear hr
            have HB17 := Lib.hid hb; clear hb
            go_wp2_with fail
            refine (pSame_same v3 v0 t _ S_v3.out (S_v0.out.below (stp (stp (stp (stp (stp HB13.out HB14.out) HB15.out) HB16.out) HBD.out) HB17.out) (Nat.le_refl _)) HL0.out).mono ?_
            rintro e wu18 ⟨rfl, hb⟩
            have HB18 := Lib.hid hb; clear hb
            go_wp2_with fail
            go_meet
            exact ⟨rfl, (stp (stp (stp (stp (stp (stp (stp (stp HBwc11.out HB12.out) HB13.out) HB14.out) HB15.out) HB16.out) HBD.out) HB17.out) HB18.out)⟩
        case rest =>
          obtain ⟨rfl, hbc⟩ := hcut
          obtain ⟨wc19, rfl⟩ : ∃ z : World, z = wc := ⟨_, rfl⟩
          have HBwc19 := Lib.hid hbc; clear hbc
          go_wp2_with fail
          refine (drawReducePoly_any a1 n1 c1 _ (H1.out.below HBwc19.out)).mono ?_
          rintro e wu20 ⟨s, v0, l, rfl, hl48, hr, hb⟩
          have S_v0 := Lib.hid hr.sl; clear hr
          have HB20 := Lib.hid hb; clear hb
          have hl20 : l.length ≤ 1048576 := by omega
          obtain ⟨R, o, hl, i1, i2, i3⟩ := ask_Terms s l hl20
          have HL := Lib.hid hl; clear hl
          clear hl20 hl48
          have I1 := Lib.hid i1; clear i1
          have I2 := Lib.hid i2; clear i2
          have I3 := Lib.hid i3; clear i3
          obtain ⟨la, lc, rfl⟩ := S_v0.out.form
          go_wp2_with fail
          refine (I1.out _ _ S_v0.out).mono ?_
          rintro e wu21 ⟨v1, rfl, hr, hb⟩
          have S_v1 := Lib.hid hr.sl; clear hr
          have HB21 := Lib.hid hb; clear hb
          go_wp2_with fail
          refine (I2.out _ _ (S_v0.out.below HB21.out (Nat.le_refl _))).mono ?_
          rintro e wu22 ⟨v2, rfl, hr, hb⟩
          have S_v2 := Lib.hid hr.sl; clear hr
          have HB22 := Lib.hid hb; clear hb
          go_wp2_with fail
          refine (pSame_same v1 v2 R _ (S_v1.out.below HB22.out (Nat.le_refl _)) S_v2.out HL.out).mono ?_
          rintro e wu23 ⟨rfl, hb⟩
          have HB23 := Lib.hid hb; clear hb
          go_upto_if 285 with (fail)
          go_cut [4, 39, 40, 41, 42, 43, 44, 45, 46, 47] from 259 to 321 (fun s4 _s39 _s40 _s41 _s42 _s43 _s44 _s45 _s46 _s47 wx => s4 = .bool false ∧ Below w.heap.size w wx)
          case first =>
            cases o with
            | false =>
              go_wp2_with fail
              go_meet
              exact ⟨rfl, (stp (stp (stp (stp HBwc19.out HB20.out) HB21.out) HB22.out) HB23.out)⟩
            | true =>
              obtain ⟨m, H, M, rfl, m16, hl40, hH⟩ := I3.out rfl
              clear I3 I1 I2
              have HH := Lib.hid hH; clear hH
              have HC : Hid (∀ i, i < l.length → ∃ b off, la = some ⟨b, off, none⟩ ∧ b < wu23.heap.size ∧ wu23.cell? ⟨b, off + i, none⟩ = some (.int .i64 (l.getD i 0))) := Lib.hid fun i hi => by
                obtain ⟨b, off, cp, e, hb, hc⟩ := ((S_v0.out.below (stp (stp HB21.out HB22.out) HB23.out) (Nat.le_refl _))).open rfl (by omega)
                cases e
                exact ⟨b, off, rfl, hb, hc i hi⟩
              have HSV : Hid (∀ w', Below wu23.heap.size wu23 w' → Sl w' v1 R) := Lib.hid fun w' hb => (S_v1.out.below (stp HB22.out HB23.out) (Nat.le_refl _)).below hb (Nat.le_refl _)
              generalize l.length = n at *
              go_wp2_with fail
              go_loopw [4, 43] (fun v4 vx wr => ∃ x : Nat, x ≤ m ∧ v4 = .bool false ∧ vx = .int .i64 x ∧ Below wu23.heap.size wu23 wr) (fun _ vx _ => m - (intOf vx).toNat)
              case atStart => exact ⟨0, Nat.zero_le _, rfl, rfl, Below.refl _ _⟩
              case round =>
                obtain ⟨x, hx, rfl, rfl, hb⟩ := hrel
                obtain ⟨wo, rfl⟩ : ∃ z : World, z = wr := ⟨_, rfl⟩
                have HBW := Lib.hid hb; clear hb
                by_cases hlt : x < m
                · obtain ⟨h0, h1, h2⟩ := HH.out x hlt
                  have X0 := Lib.hid h0; clear h0
                  have X1 := Lib.hid h1; clear h1
                  have X2 := Lib.hid h2; clear h2
                  have hwn : IntKind.i64.wrap ((n : Int) - 1) = (n : Int) - 1 := IntWalk.i64_in _ (by omega)
                  go_wp2_with fail
                  go_loopw [44, 45] (fun va vk wr => ∃ j : Nat, j ≤ n ∧ va = .int .i64 (H x j) ∧ vk = .int .i64 ((n : Int) - 1 - (j : Int)) ∧ Below wo.heap.size wo wr) (fun _ vk _ => (intOf vk + 1).toNat)
                  case atStart => exact ⟨0, Nat.zero_le _, by rw [X0.out], by simp, Below.refl _ _⟩
                  case round =>
                    obtain ⟨j, hj, rfl, rfl, hb⟩ := hrel
                    have HBX := Lib.hid hb; clear hb
                    have HBT := Lib.hid (stp HBW.out HBX.out)
                    by_cases hjn : j < n
                    · obtain ⟨t1, t2⟩ := X1.out j hjn
                      have T1 := Lib.hid (show ∀ w, _ from t1)
                      have T2 := Lib.hid (show ∀ w, _ from t2)
                      clear t1 t2
                      obtain ⟨i, hi⟩ : ∃ i, i = n - 1 - j := ⟨_, rfl⟩
                      rw [← hi] at T2
                      have hie : (n : Int) - 1 - (j : Int) = (i : Int) := by omega
                      have HIE := Lib.hid hie
                      have hin : i < n := by omega
                      obtain ⟨b, off, rfl, hbl, hcl⟩ := HC.out i hin
                      have hck : Hid (∀ w', Below wr.heap.size wr w' → w'.cell? ⟨b, off + i, none⟩ = some (.int .i64 (l.getD i 0))) := Lib.hid fun w' hb => ((stp HBT.out hb).cell (p := ⟨b, off + i, none⟩) hbl).trans hcl
                      have l1 : b < wr.heap.size := by have := HBT.out.size; omega
                      rw [hie]
                      have hwi : IntKind.i64.wrap ((i : Int) - 1) = (i : Int) - 1 := IntWalk.i64_in _ (by omega)
                      clear hcl hi hie
                      generalize l.getD i 0 = c at *
                      obtain ⟨N, hN⟩ : ∃ N, H x (j + 1) = N := ⟨_, rfl⟩
                      rw [hN] at T2
                      have HN := Lib.hid hN; clear hN
                      generalize H x j = h at *
                      generalize M x j = mm at *
                      have e1 := hck.out _ (Below.refl _ _)
                      go_wp2_with fail
                      clear e1
                      go_region_held3 (fun w' => w'.cell? ⟨b, off + i, none⟩ = some (.int .i64 c))
                        (exact hck.out _ (by (try have hb3 := HB3.out); (try have hb4 := HB4.out); (try have z3 : wr.heap.size ≤ w3.heap.size := hb3.size); (try have z4 : w3.heap.size ≤ w4.heap.size := hb4.size); (repeat' (first | (with_reducible assumption) | (with_reducible exact Below.refl _ _) | (with_reducible refine below_drewN ?_ _) | (with_reducible refine Below.drew ?_) | (with_reducible refine Below.alloc ?_ ?_ _) | (with_reducible refine Below.setCell ?_ ?_ _) | (with_reducible refine Below.trans ?_ (Below.mono (by assumption) ?_)) | (with_reducible exact Nat.le_refl _) | (with_reducible assumption) | omega | (simp; omega) | (simp; done)))))
                        (first
                          | (go_at_call 25; refine (T1.out _).mono ?_; rintro e w3 ⟨rfl, hb3⟩; have HB3 := Lib.hid hb3; clear hb3)
                          | (go_at_call 24; refine (T2.out _).mono ?_; rintro e w4 ⟨rfl, hb4⟩; have HB4 := Lib.hid hb4; clear hb4))
                      all_goals
                        have hb3 := HB3.out
                        have hb4 := HB4.out
                        have z3 : wr.heap.size ≤ w3.heap.size := hb3.size
                        have z4 : w3.heap.size ≤ w4.heap.size := hb4.size
                        have hb5 : Below wr.heap.size wr w4 := by (repeat' (first | (with_reducible assumption) | (with_reducible exact Below.refl _ _) | (with_reducible refine below_drewN ?_ _) | (with_reducible refine Below.drew ?_) | (with_reducible refine Below.alloc ?_ ?_ _) | (with_reducible refine Below.setCell ?_ ?_ _) | (with_reducible refine Below.trans ?_ (Below.mono (by assumption) ?_)) | (with_reducible exact Nat.le_refl _) | (with_reducible assumption) | omega | (simp; omega) | (simp; done)))
                        have HB5 := Lib.hid (stp HBX.out hb5)
                        clear hb3 hb4 hb5
                        go_wp2_with fail
                        go_roundw
                        case rel => exact ⟨j + 1, by omega, by rw [HN.out], by have := HIE.out; first | (simp; done) | (simp; omega), HB5.out⟩
                        case measure => first | (simp [intOf]; done) | (simp [intOf]; omega)
                    · obtain rfl : n = j := by omega
                      have hneg : ¬ (n : Int) - 1 - (n : Int) ≥ 0 := by omega
                      have hneg2 : (n : Int) - 1 - (n : Int) = -1 := by omega
                      rw [hneg2]
                      clear hneg hneg2
                      generalize H x n = y at *
                      go_wp2_with fail
                      refine (X2.out _ v1 (HSV.out _ HBT.out)).mono ?_
                      rintro e y1 ⟨rfl, hy⟩
                      have HY1 := Lib.hid (stp HBT.out hy); clear hy
                      go_wp2
                      go_roundw
                      case rel => exact ⟨x + 1, by omega, rfl, by go_num, HY1.out⟩
                      case measure => first | (simp [intOf]; done) | (simp [intOf]; omega)
                · obtain rfl : m = x := by omega
                  go_wp2_with fail
                  go_meet
                  exact ⟨rfl, stp (stp (stp (stp (stp HBwc19.out HB20.out) HB21.out) HB22.out) HB23.out) HBW.out⟩
          case rest =>
            obtain ⟨rfl, hbc⟩ := hcut
            obtain ⟨wc24, rfl⟩ : ∃ z : World, z = wc := ⟨_, rfl⟩
            have HBwc24 := Lib.hid hbc; clear hbc
            go_wp2_with fail
            refine (drawValueAt_any a1 n1 c1 _ (H1.out.below HBwc24.out)).mono ?_
            rintro e wu25 ⟨u, v0, l, x, rfl, hl48, hr, hb⟩
            have S_v0 := Lib.hid hr.sl; clear hr
            have HB25 := Lib.hid hb; clear hb
            obtain ⟨val0, o, k1, k2⟩ := key_ValueAt u l (by omega) x
            have K1 := Lib.hid k1; clear k1
            have K2 := Lib.hid k2; clear k2 hl48
            go_wp2_with fail
            refine (K2.out _ v0 S_v0.out).mono ?_
            rintro e wu26 ⟨rfl, hb⟩
            have HB26 := Lib.hid hb; clear hb
            go_wp2_with fail
            refine (K1.out _ v0 (S_v0.out.below HB26.out (Nat.le_refl _))).mono ?_
            rintro e wu27 ⟨rfl, hb⟩
            have HB27 := Lib.hid hb; clear hb
            clear S_v0
            go_wp2_with fail
            refine (drawIsPoly_any a1 n1 c1 _ (H1.out.below (stp (stp (stp HBwc24.out HB25.out) HB26.out) HB27.out))).mono ?_
            rintro e wu28 ⟨g, v9, l9, rfl, hl48, hr, hb⟩
            have S_v9 := Lib.hid hr.sl; clear hr
            have HB28 := Lib.hid hb; clear hb
            have hl20 : l9.length ≤ 1048576 := by omega
            have L1 := Lib.hid (fun w hv => impl_IsPoly_any g v9 l9 w hv hl20)
            have L2 := Lib.hid (fun w hv => spec_IsPoly_any g v9 l9 w hv hl20)
            clear hl20
            generalize (isSz g && (decide (l9.length ≤ 40) && good g l9)) = b1 at *
            generalize (isSz g && decide (l9.length ≤ 40)) = b2 at *
            clear hl48
            go_wp2_with fail
            refine (L1.out _ S_v9.out).mono ?_
            rintro e wu29 ⟨rfl, hb⟩
            have HB29 := Lib.hid hb; clear hb
            go_wp2_with fail
            refine (L2.out _ (S_v9.out.below HB29.out (Nat.le_refl _))).mono ?_
            rintro e wu30 ⟨rfl, hb⟩
            have HB30 := Lib.hid hb; clear hb
            go_wp2
            go_ret
            exact ⟨by first | rfl | simp, (stp (stp (stp (stp (stp (stp HBwc24.out HB25.out) HB26.out) HB27.out) HB28.out) HB29.out) HB30.out)⟩
  · have HBG := Lib.hid (big_yesZ a0 a1 n0 c0 n1 c1 w hbg)
    clear h0 h1 hbg
    go_enter Tryz.func3, Tryz.ntmps3
    go_wp2_with fail
    refine HBG.out.mono ?_
    rintro e _ ⟨rfl, rfl⟩
    go_wp2
    go_ret
    exact ⟨rfl, Below.refl _ _⟩
end Go.Proofs.YtljijnanmpajaaaGreat
