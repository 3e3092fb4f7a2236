/- The walk of the general law FnPowersPermute (gen zn.py). -/
import Derived.Test.YtapglncgicfjnabGreatZL
import Derived.Test.YtapglncgicfjnabGreatZM
import Derived.Test.YtapglncgicfjnabGreatDQ
import Derived.Deep.RegionHeld3
import Derived.Deep.DeepCutAuto
namespace Go.Proofs.YtapglncgicfjnabGreat
open Go.RowKit
set_option maxRecDepth 100000 in
set_option maxHeartbeats 40000000 in
/-- laws.FnPowersPermute. -/
theorem walk_FnPowersPermute (a0 : Option Addr) (n0 c0 : Nat) (z0 : List Int) (a1 : Option Addr) (n1 c1 : Nat) (z1 : List Int) (w : World) (h0 : IsRow .u8 w a0 n0 c0 z0) (h1 : IsRow .u8 w a1 n1 c1 z1) :
    Calls Tryz.prog 4 #[.slice a0 n0 c0, .slice a1 n1 c1] w fun e w' => e = .returned (.bool true) ∧ Below w.heap.size w w' := by
  by_cases hbg : n0 + n1 ≤ 1048576
  · have HBG := Lib.hid (big_no a0 a1 n0 c0 n1 c1 w hbg)
    have H0 := Lib.hid (h0.bys (by omega))
    have H1 := Lib.hid (h1.bys (by omega))
    clear h0 h1 hbg
    go_enter Tryz.func4, Tryz.ntmps4
    go_wp2_with fail
    refine HBG.out.mono ?_
    rintro e _ ⟨rfl, rfl⟩
    clear HBG
    go_wp2_with fail
    refine (drawPowerPermutes_any a0 n0 c0 _ H0.out).mono ?_
    rintro e wu1 ⟨q, n, rfl, hb⟩
    have HB1 := Lib.hid hb; clear hb
    obtain ⟨is, F, cnt, o, o3, hl, i1, i2, i3, i4, i5, i6, i7, i8⟩ := ask_PowersP q n
    have HL := Lib.hid hl; clear hl
    have I1 := Lib.hid i1; clear i1
    have I2 := Lib.hid i2; clear i2
    have I3 := Lib.hid i3; clear i3
    have I4 := Lib.hid i4; clear i4
    have I5 := Lib.hid i5; clear i5
    have I6 := Lib.hid i6; clear i6
    have I7 := Lib.hid i7; clear i7
    have I8 := Lib.hid i8; clear i8
    go_wp2_with fail
    refine (I1.out _).mono ?_
    rintro e wu2 ⟨rfl, hb⟩
    have HB2 := Lib.hid hb; clear hb
    go_wp2_with fail
    refine (I2.out _).mono ?_
    rintro e wu3 ⟨rfl, hb⟩
    have HB3 := Lib.hid hb; clear hb
    go_wp2_with fail
    refine (I3.out _).mono ?_
    rintro e wu4 ⟨v1, rfl, hr, hb⟩
    have S_v1 := Lib.hid hr.sl; clear hr
    have HB4 := Lib.hid hb; clear hb
    go_wp2_with fail
    refine (I4.out _).mono ?_
    rintro e wu5 ⟨v2, rfl, hr, hb⟩
    have S_v2 := Lib.hid hr.sl; clear hr
    have HB5 := Lib.hid hb; clear hb
    go_wp2_with fail
    refine (I5.out _).mono ?_
    rintro e wu6 ⟨rfl, hb⟩
    have HB6 := Lib.hid hb; clear hb
    go_wp2_with fail
    refine (I6.out _).mono ?_
    rintro e wu7 ⟨rfl, hb⟩
    have HB7 := Lib.hid hb; clear hb
    go_wp2_with fail
    refine (tSame_same v1 v2 F _ (S_v1.out.below (stp (stp HB5.out HB6.out) HB7.out) (Nat.le_refl _)) (S_v2.out.below (stp HB6.out HB7.out) (Nat.le_refl _)) HL.out).mono ?_
    rintro e wu8 ⟨rfl, hb⟩
    have HB8 := Lib.hid hb; clear hb
    go_wp2_with fail
    refine (I7.out _).mono ?_
    rintro e wu9 ⟨rfl, hb⟩
    have HB9 := Lib.hid hb; clear hb
    go_upto_if 121 with (fail)
    go_cut [4, 7, 8, 9, 10, 11, 12, 13, 14, 15, 16, 17, 18, 19, 20, 21, 22, 23, 24, 25, 26, 27] from 39 to 175 (fun s4 _s7 _s8 _s9 _s10 _s11 _s12 _s13 _s14 _s15 _s16 _s17 _s18 _s19 _s20 _s21 _s22 _s23 _s24 _s25 _s26 _s27 wx => s4 = .bool false ∧ Below w.heap.size w wx)
    case first =>
      cases o with
      | false =>
        go_wp2_with fail
        go_meet
        exact ⟨rfl, (stp (stp (stp (stp (stp (stp (stp (stp HB1.out HB2.out) HB3.out) HB4.out) HB5.out) HB6.out) HB7.out) HB8.out) HB9.out)⟩
      | true =>
        obtain ⟨m, X, P, C, rfl, m2, m16, j1, j2, j3, c0, c1, j4, j5⟩ := I8.out rfl
        clear I8 I1 I2 I3 I4 I5 I6 I7
        have J1 := Lib.hid j1; clear j1
        have J2 := Lib.hid j2; clear j2
        have J3 := Lib.hid j3; clear j3
        have J4 := Lib.hid j4; clear j4
        have J5 := Lib.hid j5; clear j5
        have C0 := Lib.hid c0; clear c0
        have C1 := Lib.hid c1; clear c1
        go_wp2_with fail
        refine (J1.out _ v1 (S_v1.out.below (stp (stp (stp (stp HB5.out HB6.out) HB7.out) HB8.out) HB9.out) (Nat.le_refl _))).mono ?_
        rintro e wu10 ⟨rfl, hb⟩
        have HB10 := Lib.hid hb; clear hb
        have HSV := Lib.hid (S_v1.out.below (stp (stp (stp (stp (stp HB5.out HB6.out) HB7.out) HB8.out) HB9.out) HB10.out) (Nat.le_refl _))
        go_wp2_with fail
        go_loopw [4, 19] (fun v4 vx wr => ∃ x : Nat, x ≤ m ∧ v4 = .bool false ∧ vx = .int .i64 x ∧ Below wu10.heap.size wu10 wr) (fun _ vx _ => m - (intOf vx).toNat)
        case atStart => exact ⟨0, Nat.zero_le _, rfl, rfl, Below.refl _ _⟩
        case round =>
          obtain ⟨x, hx, rfl, rfl, hb⟩ := hrel
          obtain ⟨wo, rfl⟩ : ∃ z : World, z = wr := ⟨_, rfl⟩
          have HBW := Lib.hid hb; clear hb
          by_cases hlt : x < m
          · have KA := Lib.hid (fun w v hv => J2.out x w v hlt hv)
            have KB := Lib.hid (fun w => J3.out x w hlt)
            generalize X x = y at *
            go_wp2_with fail
            refine (KA.out _ v1 (HSV.out.below HBW.out (Nat.le_refl _))).mono ?_
            rintro e y1 ⟨rfl, hy⟩
            have HY1 := Lib.hid (stp HBW.out hy); clear hy
            go_wp2_with fail
            refine (KB.out _).mono ?_
            rintro e y2 ⟨rfl, hy⟩
            have HY2 := Lib.hid (stp HY1.out hy); clear hy
            go_wp2
            go_roundw
            case rel => exact ⟨x + 1, by omega, rfl, by go_num, HY2.out⟩
            case measure => simp [intOf]; omega
          · obtain rfl : m = x := by omega
            go_wp2_with fail
            go_loopw [4, 24, 25] (fun v4 vn vk wr => ∃ k : Nat, 1 ≤ k ∧ k ≤ m ∧ v4 = .bool false ∧ vn = .int .i64 (C k) ∧ vk = .int .i64 k ∧ Below wo.heap.size wo wr) (fun _ _ vk _ => m - (intOf vk).toNat)
            case atStart => exact ⟨1, Nat.le_refl _, by omega, rfl, by rw [C0.out], rfl, Below.refl _ _⟩
            case round =>
              obtain ⟨k, hk1, hk, rfl, rfl, rfl, hb⟩ := hrel
              have HBX := Lib.hid hb; clear hb
              by_cases hlt : k < m
              · have KA := Lib.hid (fun w => J4.out k w hk1 hlt)
                obtain ⟨⟨b0, b1⟩, b2, b3⟩ := J5.out k hk1 hlt
                obtain ⟨N, hN⟩ : ∃ N, C (k + 1) = N := ⟨_, rfl⟩
                rw [hN] at b2 b3
                have HN := Lib.hid hN; clear hN
                generalize C k = T at *
                cases hp : P k with
                | true =>
                  rw [hp] at KA
                  have hN2 := Lib.hid (b2 hp)
                  have hw : IntKind.i64.wrap (T + 1) = T + 1 := IntWalk.i64_in _ (by omega)
                  clear b2 b3 hp
                  go_wp2_with fail
                  refine (KA.out _).mono ?_
                  rintro e y1 ⟨rfl, hy⟩
                  have HY1 := Lib.hid (stp HBX.out hy); clear hy
                  go_wp2
                  go_roundw
                  case rel => exact ⟨k + 1, by omega, by omega, rfl, by rw [HN.out, hN2.out], by go_num, HY1.out⟩
                  case measure => simp [intOf]; omega
                | false =>
                  rw [hp] at KA
                  have hN2 := Lib.hid (b3 hp)
                  clear b2 b3 hp
                  go_wp2_with fail
                  refine (KA.out _).mono ?_
                  rintro e y1 ⟨rfl, hy⟩
                  have HY1 := Lib.hid (stp HBX.out hy); clear hy
                  go_wp2
                  go_roundw
                  case rel => exact ⟨k + 1, by omega, by omega, rfl, by rw [HN.out, hN2.out], by go_num, HY1.out⟩
                  case measure => simp [intOf]; omega
              · obtain rfl : m = k := by omega
                rw [C1.out]
                go_wp2_with fail
                go_meet
                exact ⟨rfl, stp (stp (stp (stp (stp (stp (stp (stp (stp (stp (stp HB1.out HB2.out) HB3.out) HB4.out) HB5.out) HB6.out) HB7.out) HB8.out) HB9.out) HB10.out) HBW.out) HBX.out⟩
    case rest =>
      obtain ⟨rfl, hbc⟩ := hcut
      obtain ⟨wc11, rfl⟩ : ∃ z : World, z = wc := ⟨_, rfl⟩
      have HBwc11 := Lib.hid hbc; clear hbc
      go_wp2_with fail
      refine (drawDicksonPermutes_any a1 n1 c1 _ (H1.out.below HBwc11.out)).mono ?_
      rintro e wu12 ⟨q, n, a, rfl, hb⟩
      have HB12 := Lib.hid hb; clear hb
      obtain ⟨is, F, o, hl, i1, i2, i3, i4, i5⟩ := ask_DicksP q n a
      have HL := Lib.hid hl; clear hl
      have I1 := Lib.hid i1; clear i1
      have I2 := Lib.hid i2; clear i2
      have I3 := Lib.hid i3; clear i3
      have I4 := Lib.hid i4; clear i4
      have I5 := Lib.hid i5; clear i5
      go_wp2_with fail
      refine (I1.out _).mono ?_
      rintro e wu13 ⟨rfl, hb⟩
      have HB13 := Lib.hid hb; clear hb
      go_wp2_with fail
      refine (I2.out _).mono ?_
      rintro e wu14 ⟨rfl, hb⟩
      have HB14 := Lib.hid hb; clear hb
      go_wp2_with fail
      refine (I3.out _).mono ?_
      rintro e wu15 ⟨v1, rfl, hr, hb⟩
      have S_v1 := Lib.hid hr.sl; clear hr
      have HB15 := Lib.hid hb; clear hb
      go_wp2_with fail
      refine (I4.out _).mono ?_
      rintro e wu16 ⟨v2, rfl, hr, hb⟩
      have S_v2 := Lib.hid hr.sl; clear hr
      have HB16 := Lib.hid hb; clear hb
      go_wp2_with fail
      refine (tSame_same v1 v2 F _ (S_v1.out.below HB16.out (Nat.le_refl _)) S_v2.out HL.out).mono ?_
      rintro e wu17 ⟨rfl, hb⟩
      have HB17 := Lib.hid hb; clear hb
      cases o with
      | false =>
        go_wp2
        go_ret
        exact ⟨by first | rfl | simp, (stp (stp (stp (stp (stp (stp HBwc11.out HB12.out) HB13.out) HB14.out) HB15.out) HB16.out) HB17.out)⟩
      | true =>
        have J5 := Lib.hid (I5.out rfl); clear I5
        go_wp2_with fail
        refine (J5.out _ v1 (S_v1.out.below (stp HB16.out HB17.out) (Nat.le_refl _))).mono ?_
        rintro e wu18 ⟨rfl, hb⟩
        have HB18 := Lib.hid hb; clear hb
        go_wp2
        go_ret
        exact ⟨by first | rfl | simp, (stp (stp (stp (stp (stp (stp (stp HBwc11.out HB12.out) HB13.out) HB14.out) HB15.out) HB16.out) HB17.out) HB18.out)⟩
  · have HBG := Lib.hid (big_yes a0 a1 n0 c0 n1 c1 w hbg)
    clear h0 h1 hbg
    go_enter Tryz.func4, Tryz.ntmps4
    go_wp2_with fail
    refine HBG.out.mono ?_
    rintro e _ ⟨rfl, rfl⟩
    go_wp2
    go_ret
    exact ⟨rfl, Below.refl _ _⟩
end Go.Proofs.YtapglncgicfjnabGreat
