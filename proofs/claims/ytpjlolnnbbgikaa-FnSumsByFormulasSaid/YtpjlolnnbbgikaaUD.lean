/- The walk of the general law FnSumsByFormulas. -/
import Derived.Test.YtpjlolnnbbgikaaUB
import Derived.Test.YtpjlolnnbbgikaaUC
import Derived.Test.YtpjlolnnbbgikaaDT
namespace Go.Proofs.Ytpjlolnnbbgikaa
open Go.RowKit
theorem big_yesU (a0 a1 : Option Addr) (n0 c0 n1 c1 : Nat) (w : World) (h : ¬ n0 + n1 ≤ 1048576) :
    Calls Try.prog 4 #[.slice a0 n0 c0, .slice a1 n1 c1] w fun e w' => e = .returned (.bool true) ∧ w = w' := by
  by_cases h0 : 1048576 < n0
  · have h1 : (1048576 : Int) < (n0 : Int) := by omega
    go_enter Try.func4, Try.ntmps4
    go_wp2
    go_ret
    exact ⟨by first | rfl | simp [h1], by first | rfl | trivial⟩
  · have h1 : ¬ (1048576 : Int) < (n0 : Int) := by omega
    have h2 : (1048576 : Int) - (n0 : Int) < (n1 : Int) := by omega
    have hw : IntKind.i64.wrap (1048576 - (n0 : Int)) = 1048576 - (n0 : Int) := IntWalk.i64_in _ (by omega)
    go_enter Try.func4, Try.ntmps4
    go_wp2
    go_ret
    exact ⟨by first | rfl | simp [h2], by first | rfl | trivial⟩
theorem below_newU {w u u' : World} {o : Obj} (h : Below w.heap.size w u) (hb : Below (u.alloc o).heap.size (u.alloc o) u') : Below w.heap.size w u' := by
  have h1 := h.trans ((Below.alloc (Below.refl _ _) (Nat.le_refl _) o).mono h.size)
  exact h1.trans (hb.mono h1.size)
theorem ncn_to (P : Nat → Bool) (n : Nat) : (P n = true → ncn P (n + 1) = ncn P n + 1) ∧ (P n = false → ncn P (n + 1) = ncn P n) :=
  ⟨fun h => by show ncn P n + (if P n then 1 else 0) = _; rw [h]; rfl, fun h => by show ncn P n + (if P n then 1 else 0) = _; rw [h]; exact Int.add_zero _⟩
theorem loops_of (m : Nat) (hm : m ≤ 16) (X : Nat → Nat → Int) (d : Int) : ∃ (S : Nat → Int) (Y : Nat → Nat → Int), S 0 = 0 ∧ S m = csm (fun x => ncn (fun y => decide (X x y = d)) m) m ∧
    ∀ x, x < m → Y x 0 = S x ∧ Y x m = S (x + 1) ∧ ∀ y, y < m → (0 ≤ Y x y ∧ Y x y ≤ 1000) ∧ (X x y = d → Y x (y + 1) = Y x y + 1) ∧ (¬ X x y = d → Y x (y + 1) = Y x y) := by
  refine ⟨csm (fun x => ncn (fun y => decide (X x y = d)) m), fun x j => csm (fun x => ncn (fun y => decide (X x y = d)) m) x + ncn (fun y => decide (X x y = d)) j, rfl, rfl, fun x hx => ⟨Int.add_zero _, rfl, fun y hy => ?_⟩⟩
  have h1 := csm_bd2 (c := fun x => ncn (fun y => decide (X x y = d)) m) (fun i => by have := ncn_bd (fun y => decide (X i y = d)) m; exact ⟨this.1, by omega⟩) x
  have h2 := ncn_bd (fun y => decide (X x y = d)) y
  have h3 := ncn_to (fun y => decide (X x y = d)) y
  dsimp only
  refine ⟨⟨by omega, by omega⟩, fun h => ?_, fun h => ?_⟩
  · have := h3.1 (decide_eq_true h)
    rw [this]; omega
  · have := h3.2 (decide_eq_false h)
    rw [this]
set_option maxRecDepth 100000 in
set_option maxHeartbeats 20000000 in
/-- laws.FnSumsByFormulas. -/
theorem walk_FnSumsByFormulas (a0 : Option Addr) (n0 c0 : Nat) (z0 : List Int) (a1 : Option Addr) (n1 c1 : Nat) (z1 : List Int) (w : World) (h0 : IsRow .u8 w a0 n0 c0 z0) (h1 : IsRow .u8 w a1 n1 c1 z1) :
    Calls Try.prog 3 #[.slice a0 n0 c0, .slice a1 n1 c1] w fun e w' => e = .returned (.bool true) ∧ Below w.heap.size w w' := by
  by_cases hbg : n0 + n1 ≤ 1048576
  · have HBG := Lib.hid (big_no a0 a1 n0 c0 n1 c1 w hbg)
    have H0 := Lib.hid (h0.bys (by omega))
    have H1 := Lib.hid (h1.bys (by omega))
    have HU0 : Hid (Below w.heap.size w w) := Lib.hid (Below.refl _ _)
    clear h0 h1 hbg
    go_enter Try.func3, Try.ntmps3
    go_wp2_with fail
    refine HBG.out.mono ?_
    rintro e _ ⟨rfl, rfl⟩
    clear HBG
    go_wp2_with fail
    refine (drawQuadraticSum_any a0 n0 c0 _ H0.out).mono ?_
    rintro e u1 ⟨q, a, b, c, rfl, hb1⟩
    have HU1 : Hid (Below w.heap.size w u1) := Lib.hid (HU0.out.trans (hb1.mono HU0.out.size)); clear hb1
    obtain ⟨s, o, i1, i2, i3⟩ := ask_Quadratic q a b c
    have I1 := Lib.hid i1; clear i1
    have I2 := Lib.hid i2; clear i2
    have I3 := Lib.hid i3; clear i3
    go_wp2_with fail
    refine (I1.out _).mono ?_
    rintro e u2 ⟨rfl, hb2⟩
    have HU2 : Hid (Below w.heap.size w u2) := Lib.hid (HU1.out.trans (hb2.mono HU1.out.size)); clear hb2
    go_wp2_with fail
    refine (I2.out _).mono ?_
    rintro e u3 ⟨rfl, hb3⟩
    have HU3 : Hid (Below w.heap.size w u3) := Lib.hid (HU2.out.trans (hb3.mono HU2.out.size)); clear hb3
    cases o with
    | false =>
      clear I3
      go_wp2_with fail
      refine (drawCountSquareSums_any a1 n1 c1 _ (H1.out.below HU3.out)).mono ?_
      rintro e u4 ⟨r, d, rfl, hb4⟩
      have HU4 : Hid (Below w.heap.size w u4) := Lib.hid (HU3.out.trans (hb4.mono HU3.out.size)); clear hb4
      obtain ⟨s2, t2, o2, k1, k2, k3, k4, k5⟩ := ask_Squares r d
      have K1 := Lib.hid k1; clear k1
      have K2 := Lib.hid k2; clear k2
      have K3 := Lib.hid k3; clear k3
      have K4 := Lib.hid k4; clear k4
      have K5 := Lib.hid k5; clear k5
      go_wp2_with fail
      refine (K1.out _).mono ?_
      rintro e u5 ⟨rfl, hb5⟩
      have HU5 : Hid (Below w.heap.size w u5) := Lib.hid (HU4.out.trans (hb5.mono HU4.out.size)); clear hb5
      go_wp2_with fail
      refine (K2.out _).mono ?_
      rintro e u6 ⟨rfl, hb6⟩
      have HU6 : Hid (Below w.heap.size w u6) := Lib.hid (HU5.out.trans (hb6.mono HU5.out.size)); clear hb6
      go_wp2_with fail
      refine (K3.out _).mono ?_
      rintro e u7 ⟨rfl, hb7⟩
      have HU7 : Hid (Below w.heap.size w u7) := Lib.hid (HU6.out.trans (hb7.mono HU6.out.size)); clear hb7
      go_wp2_with fail
      refine (K4.out _).mono ?_
      rintro e u8 ⟨rfl, hb8⟩
      have HU8 : Hid (Below w.heap.size w u8) := Lib.hid (HU7.out.trans (hb8.mono HU7.out.size)); clear hb8
      cases o2 with
      | false =>
        clear K5
        go_wp2_with fail
        refine (drawCountRuns_any a1 n1 c1 _ (H1.out.below HU8.out)).mono ?_
        rintro e u9 ⟨q3, i, j, rfl, hb9⟩
        have HU9 : Hid (Below w.heap.size w u9) := Lib.hid (HU8.out.trans (hb9.mono HU8.out.size)); clear hb9
        obtain ⟨s3, o3, r1, r2, r3⟩ := ask_Runs q3 i j
        have R1 := Lib.hid r1; clear r1
        have R2 := Lib.hid r2; clear r2
        have R3 := Lib.hid r3; clear r3
        go_wp2_with fail
        refine (R1.out _).mono ?_
        rintro e u10 ⟨rfl, hb10⟩
        have HU10 : Hid (Below w.heap.size w u10) := Lib.hid (HU9.out.trans (hb10.mono HU9.out.size)); clear hb10
        go_wp2_with fail
        refine (R2.out _).mono ?_
        rintro e u11 ⟨rfl, hb11⟩
        have HU11 : Hid (Below w.heap.size w u11) := Lib.hid (HU10.out.trans (hb11.mono HU10.out.size)); clear hb11
        cases o3 with
        | false =>
          go_wp2
          go_ret
          exact ⟨rfl, HU11.out⟩
        | true =>
          obtain ⟨n, g, r4, r5, he, q0, q1, j0, j1, g0, g1, k0, k1⟩ := R3.out rfl
          clear R3
          have HE := Lib.hid he
          have e1 : IntKind.i64.wrap (4 * s3) = 4 * s3 := IntWalk.i64_in _ (by omega)
          have e2 : IntKind.i64.wrap (q3 - 2) = q3 - 2 := IntWalk.i64_in _ (by omega)
          have e3 : IntKind.i64.wrap (q3 - 2 - j) = q3 - 2 - j := IntWalk.i64_in _ (by omega)
          have e4 : IntKind.i64.wrap (i * g) = i * g := IntWalk.i64_in _ (by omega)
          have e5 : IntKind.i64.wrap (q3 - 2 - j - i * g) = q3 - 2 - j - i * g := IntWalk.i64_in _ (by omega)
          have e6 : IntKind.i64.wrap (i * j) = i * j := IntWalk.i64_in _ (by omega)
          have e7 : IntKind.i64.wrap (q3 - 2 - j - i * g - i * j) = q3 - 2 - j - i * g - i * j := IntWalk.i64_in _ (by omega)
          clear he
          have R4 := Lib.hid r4; clear r4
          have R5 := Lib.hid r5; clear r5
          go_wp2_with fail
          refine (R4.out _).mono ?_
          rintro e u12 ⟨rfl, hb12⟩
          have HU12 : Hid (Below w.heap.size w u12) := Lib.hid (HU11.out.trans (hb12.mono HU11.out.size)); clear hb12
          go_wp2_with fail
          refine (R5.out _).mono ?_
          rintro e u13 ⟨rfl, hb13⟩
          have HU13 : Hid (Below w.heap.size w u13) := Lib.hid (HU12.out.trans (hb13.mono HU12.out.size)); clear hb13
          go_wp2
          go_ret
          exact ⟨by first | rfl | simp [HE.out], HU13.out⟩
      | true =>
        obtain ⟨m, A, X, rfl, hm, k6, k7, k8, k9⟩ := K5.out rfl
        clear K5
        obtain ⟨S, Y, l1, l2, l3⟩ := loops_of m hm X d
        rw [k8] at l2
        clear k8
        have L1 := Lib.hid l1; clear l1
        have L2 := Lib.hid l2; clear l2
        have L3 := Lib.hid l3; clear l3
        have K9 := Lib.hid k9; clear k9
        have K6 := Lib.hid k6; clear k6
        have K7 := Lib.hid k7; clear k7
        go_wp2_with fail
        go_loopw [27, 28] (fun va vx wr => ∃ x : Nat, x ≤ m ∧ va = .int .i64 (S x) ∧ vx = .int .i64 x ∧ Below u8.heap.size u8 wr) (fun _ vx _ => m - (intOf vx).toNat)
        case atStart => exact ⟨0, Nat.zero_le _, by rw [L1.out], rfl, Below.refl _ _⟩
        case round =>
          obtain ⟨x, hx, rfl, rfl, hbw⟩ := hrel
          obtain ⟨wo, rfl⟩ : ∃ z : World, z = wr := ⟨_, rfl⟩
          have HBW := Lib.hid hbw; clear hbw
          by_cases hlt : x < m
          · obtain ⟨y0, y1, y2⟩ := L3.out x hlt
            have Y0 := Lib.hid y0; clear y0
            have Y1 := Lib.hid y1; clear y1
            have Y2 := Lib.hid y2; clear y2
            have KX := Lib.hid (K6.out x hlt)
            have KY := Lib.hid (fun y hy => K7.out x y hlt hy)
            go_wp2_with fail
            go_loopw [27, 29] (fun va vy ws => ∃ y : Nat, y ≤ m ∧ va = .int .i64 (Y x y) ∧ vy = .int .i64 y ∧ Below wo.heap.size wo ws) (fun _ vy _ => m - (intOf vy).toNat)
            case atStart => exact ⟨0, Nat.zero_le _, by rw [Y0.out], rfl, Below.refl _ _⟩
            case round =>
              obtain ⟨y, hy, rfl, rfl, hbs⟩ := hrel
              have HBS := Lib.hid hbs; clear hbs
              by_cases hlt2 : y < m
              · obtain ⟨⟨b0, b1⟩, b2, b3⟩ := Y2.out y hlt2
                have KZ := Lib.hid (K6.out y hlt2)
                have KW := Lib.hid (KY.out y hlt2)
                generalize X x y = V at *
                obtain ⟨N, hN⟩ : ∃ N, Y x (y + 1) = N := ⟨_, rfl⟩
                rw [hN] at b2 b3
                have HN := Lib.hid hN; clear hN
                generalize Y x y = T at *
                generalize A x = A1 at *
                go_wp2_with fail
                refine (KX.out _).mono ?_
                rintro e v1 ⟨rfl, hv1⟩
                have HV1 := Lib.hid (HBS.out.trans (hv1.mono HBS.out.size)); clear hv1
                go_wp2_with fail
                refine (KZ.out _).mono ?_
                rintro e v2 ⟨rfl, hv2⟩
                have HV2 := Lib.hid (HV1.out.trans (hv2.mono HV1.out.size)); clear hv2
                go_wp2_with fail
                refine (KW.out _).mono ?_
                rintro e v3 ⟨rfl, hv3⟩
                have HV3 := Lib.hid (HV2.out.trans (hv3.mono HV2.out.size)); clear hv3
                by_cases hd : V = d
                · have hN2 := Lib.hid (b2 hd)
                  have hw0 : IntKind.i64.wrap (T + 1) = T + 1 := IntWalk.i64_in _ (by omega)
                  clear b2 b3
                  go_wp2
                  go_roundw
                  case rel => exact ⟨y + 1, by omega, by rw [HN.out, hN2.out], by go_num, HV3.out⟩
                  case measure => simp [intOf]; omega
                · have hN2 := Lib.hid (b3 hd)
                  clear b2 b3
                  go_wp2
                  go_roundw
                  case rel => exact ⟨y + 1, by omega, by rw [HN.out, hN2.out], by go_num, HV3.out⟩
                  case measure => simp [intOf]; omega
              · obtain rfl : m = y := by omega
                rw [Y1.out]
                have HBT := Lib.hid (HBW.out.trans (HBS.out.mono HBW.out.size))
                clear Y0 Y1 Y2 KX KY
                go_wp2
                go_roundw
                case rel => exact ⟨x + 1, by omega, rfl, by go_num, HBT.out⟩
                case measure => simp [intOf]; omega
          · obtain rfl : m = x := by omega
            rw [L2.out]
            have HU9 : Hid (Below w.heap.size w wo) := Lib.hid (HU8.out.trans (HBW.out.mono HU8.out.size))
            clear L1 L2 L3 K6 K7 HBW
            have hw0 : IntKind.i64.wrap ((m : Int) - 1) = (m : Int) - 1 := IntWalk.i64_in _ (by omega)
            by_cases hd : d = 0
            · subst hd
              obtain rfl : t2 = (m : Int) - 1 := by have := K9.out; rwa [if_pos rfl] at this
              clear K9
              go_wp2_with fail
              refine (drawCountRuns_any a1 n1 c1 _ (H1.out.below HU9.out)).mono ?_
              rintro e u10 ⟨q3, i, j, rfl, hb10⟩
              have HU10 : Hid (Below w.heap.size w u10) := Lib.hid (HU9.out.trans (hb10.mono HU9.out.size)); clear hb10
              obtain ⟨s3, o3, r1, r2, r3⟩ := ask_Runs q3 i j
              have R1 := Lib.hid r1; clear r1
              have R2 := Lib.hid r2; clear r2
              have R3 := Lib.hid r3; clear r3
              go_wp2_with fail
              refine (R1.out _).mono ?_
              rintro e u11 ⟨rfl, hb11⟩
              have HU11 : Hid (Below w.heap.size w u11) := Lib.hid (HU10.out.trans (hb11.mono HU10.out.size)); clear hb11
              go_wp2_with fail
              refine (R2.out _).mono ?_
              rintro e u12 ⟨rfl, hb12⟩
              have HU12 : Hid (Below w.heap.size w u12) := Lib.hid (HU11.out.trans (hb12.mono HU11.out.size)); clear hb12
              cases o3 with
              | false =>
                go_wp2
                go_ret
                exact ⟨rfl, HU12.out⟩
              | true =>
                obtain ⟨n, g, r4, r5, he, q0, q1, j0, j1, g0, g1, k0, k1⟩ := R3.out rfl
                clear R3
                have HE := Lib.hid he
                have e1 : IntKind.i64.wrap (4 * s3) = 4 * s3 := IntWalk.i64_in _ (by omega)
                have e2 : IntKind.i64.wrap (q3 - 2) = q3 - 2 := IntWalk.i64_in _ (by omega)
                have e3 : IntKind.i64.wrap (q3 - 2 - j) = q3 - 2 - j := IntWalk.i64_in _ (by omega)
                have e4 : IntKind.i64.wrap (i * g) = i * g := IntWalk.i64_in _ (by omega)
                have e5 : IntKind.i64.wrap (q3 - 2 - j - i * g) = q3 - 2 - j - i * g := IntWalk.i64_in _ (by omega)
                have e6 : IntKind.i64.wrap (i * j) = i * j := IntWalk.i64_in _ (by omega)
                have e7 : IntKind.i64.wrap (q3 - 2 - j - i * g - i * j) = q3 - 2 - j - i * g - i * j := IntWalk.i64_in _ (by omega)
                clear he
                have R4 := Lib.hid r4; clear r4
                have R5 := Lib.hid r5; clear r5
                go_wp2_with fail
                refine (R4.out _).mono ?_
                rintro e u13 ⟨rfl, hb13⟩
                have HU13 : Hid (Below w.heap.size w u13) := Lib.hid (HU12.out.trans (hb13.mono HU12.out.size)); clear hb13
                go_wp2_with fail
                refine (R5.out _).mono ?_
                rintro e u14 ⟨rfl, hb14⟩
                have HU14 : Hid (Below w.heap.size w u14) := Lib.hid (HU13.out.trans (hb14.mono HU13.out.size)); clear hb14
                go_wp2
                go_ret
                exact ⟨by first | rfl | simp [HE.out], HU14.out⟩
            · obtain rfl : t2 = -1 := by have := K9.out; rwa [if_neg hd] at this
              clear K9
              go_wp2_with fail
              refine (drawCountRuns_any a1 n1 c1 _ (H1.out.below HU9.out)).mono ?_
              rintro e u10 ⟨q3, i, j, rfl, hb10⟩
              have HU10 : Hid (Below w.heap.size w u10) := Lib.hid (HU9.out.trans (hb10.mono HU9.out.size)); clear hb10
              obtain ⟨s3, o3, r1, r2, r3⟩ := ask_Runs q3 i j
              have R1 := Lib.hid r1; clear r1
              have R2 := Lib.hid r2; clear r2
              have R3 := Lib.hid r3; clear r3
              go_wp2_with fail
              refine (R1.out _).mono ?_
              rintro e u11 ⟨rfl, hb11⟩
              have HU11 : Hid (Below w.heap.size w u11) := Lib.hid (HU10.out.trans (hb11.mono HU10.out.size)); clear hb11
              go_wp2_with fail
              refine (R2.out _).mono ?_
              rintro e u12 ⟨rfl, hb12⟩
              have HU12 : Hid (Below w.heap.size w u12) := Lib.hid (HU11.out.trans (hb12.mono HU11.out.size)); clear hb12
              cases o3 with
              | false =>
                go_wp2
                go_ret
                exact ⟨rfl, HU12.out⟩
              | true =>
                obtain ⟨n, g, r4, r5, he, q0, q1, j0, j1, g0, g1, k0, k1⟩ := R3.out rfl
                clear R3
                have HE := Lib.hid he
                have e1 : IntKind.i64.wrap (4 * s3) = 4 * s3 := IntWalk.i64_in _ (by omega)
                have e2 : IntKind.i64.wrap (q3 - 2) = q3 - 2 := IntWalk.i64_in _ (by omega)
                have e3 : IntKind.i64.wrap (q3 - 2 - j) = q3 - 2 - j := IntWalk.i64_in _ (by omega)
                have e4 : IntKind.i64.wrap (i * g) = i * g := IntWalk.i64_in _ (by omega)
                have e5 : IntKind.i64.wrap (q3 - 2 - j - i * g) = q3 - 2 - j - i * g := IntWalk.i64_in _ (by omega)
                have e6 : IntKind.i64.wrap (i * j) = i * j := IntWalk.i64_in _ (by omega)
                have e7 : IntKind.i64.wrap (q3 - 2 - j - i * g - i * j) = q3 - 2 - j - i * g - i * j := IntWalk.i64_in _ (by omega)
                clear he
                have R4 := Lib.hid r4; clear r4
                have R5 := Lib.hid r5; clear r5
                go_wp2_with fail
                refine (R4.out _).mono ?_
                rintro e u13 ⟨rfl, hb13⟩
                have HU13 : Hid (Below w.heap.size w u13) := Lib.hid (HU12.out.trans (hb13.mono HU12.out.size)); clear hb13
                go_wp2_with fail
                refine (R5.out _).mono ?_
                rintro e u14 ⟨rfl, hb14⟩
                have HU14 : Hid (Below w.heap.size w u14) := Lib.hid (HU13.out.trans (hb14.mono HU13.out.size)); clear hb14
                go_wp2
                go_ret
                exact ⟨by first | rfl | simp [HE.out], HU14.out⟩
    | true =>
      obtain ⟨f, i4, i5⟩ := I3.out rfl
      clear I3
      have I4 := Lib.hid i4; clear i4
      have I5 := Lib.hid i5; clear i5
      go_wp2_with fail
      refine (I4.out _ _ (sl_three _ _ _ rfl)).mono ?_
      rintro e u4 ⟨v, rfl, hr, hb4⟩
      have SA := Lib.hid hr.sl; clear hr
      have HU4 : Hid (Below w.heap.size w u4) := Lib.hid (below_newU HU3.out hb4); clear hb4
      go_wp2_with fail
      refine (I5.out _ v SA.out).mono ?_
      rintro e u5 ⟨rfl, hb5⟩
      clear SA
      have HU5 : Hid (Below w.heap.size w u5) := Lib.hid (HU4.out.trans (hb5.mono HU4.out.size)); clear hb5
      go_wp2_with fail
      refine (drawCountSquareSums_any a1 n1 c1 _ (H1.out.below HU5.out)).mono ?_
      rintro e u6 ⟨r, d, rfl, hb6⟩
      have HU6 : Hid (Below w.heap.size w u6) := Lib.hid (HU5.out.trans (hb6.mono HU5.out.size)); clear hb6
      obtain ⟨s2, t2, o2, k1, k2, k3, k4, k5⟩ := ask_Squares r d
      have K1 := Lib.hid k1; clear k1
      have K2 := Lib.hid k2; clear k2
      have K3 := Lib.hid k3; clear k3
      have K4 := Lib.hid k4; clear k4
      have K5 := Lib.hid k5; clear k5
      go_wp2_with fail
      refine (K1.out _).mono ?_
      rintro e u7 ⟨rfl, hb7⟩
      have HU7 : Hid (Below w.heap.size w u7) := Lib.hid (HU6.out.trans (hb7.mono HU6.out.size)); clear hb7
      go_wp2_with fail
      refine (K2.out _).mono ?_
      rintro e u8 ⟨rfl, hb8⟩
      have HU8 : Hid (Below w.heap.size w u8) := Lib.hid (HU7.out.trans (hb8.mono HU7.out.size)); clear hb8
      go_wp2_with fail
      refine (K3.out _).mono ?_
      rintro e u9 ⟨rfl, hb9⟩
      have HU9 : Hid (Below w.heap.size w u9) := Lib.hid (HU8.out.trans (hb9.mono HU8.out.size)); clear hb9
      go_wp2_with fail
      refine (K4.out _).mono ?_
      rintro e u10 ⟨rfl, hb10⟩
      have HU10 : Hid (Below w.heap.size w u10) := Lib.hid (HU9.out.trans (hb10.mono HU9.out.size)); clear hb10
      cases o2 with
      | false =>
        clear K5
        go_wp2_with fail
        refine (drawCountRuns_any a1 n1 c1 _ (H1.out.below HU10.out)).mono ?_
        rintro e u11 ⟨q3, i, j, rfl, hb11⟩
        have HU11 : Hid (Below w.heap.size w u11) := Lib.hid (HU10.out.trans (hb11.mono HU10.out.size)); clear hb11
        obtain ⟨s3, o3, r1, r2, r3⟩ := ask_Runs q3 i j
        have R1 := Lib.hid r1; clear r1
        have R2 := Lib.hid r2; clear r2
        have R3 := Lib.hid r3; clear r3
        go_wp2_with fail
        refine (R1.out _).mono ?_
        rintro e u12 ⟨rfl, hb12⟩
        have HU12 : Hid (Below w.heap.size w u12) := Lib.hid (HU11.out.trans (hb12.mono HU11.out.size)); clear hb12
        go_wp2_with fail
        refine (R2.out _).mono ?_
        rintro e u13 ⟨rfl, hb13⟩
        have HU13 : Hid (Below w.heap.size w u13) := Lib.hid (HU12.out.trans (hb13.mono HU12.out.size)); clear hb13
        cases o3 with
        | false =>
          go_wp2
          go_ret
          exact ⟨rfl, HU13.out⟩
        | true =>
          obtain ⟨n, g, r4, r5, he, q0, q1, j0, j1, g0, g1, k0, k1⟩ := R3.out rfl
          clear R3
          have HE := Lib.hid he
          have e1 : IntKind.i64.wrap (4 * s3) = 4 * s3 := IntWalk.i64_in _ (by omega)
          have e2 : IntKind.i64.wrap (q3 - 2) = q3 - 2 := IntWalk.i64_in _ (by omega)
          have e3 : IntKind.i64.wrap (q3 - 2 - j) = q3 - 2 - j := IntWalk.i64_in _ (by omega)
          have e4 : IntKind.i64.wrap (i * g) = i * g := IntWalk.i64_in _ (by omega)
          have e5 : IntKind.i64.wrap (q3 - 2 - j - i * g) = q3 - 2 - j - i * g := IntWalk.i64_in _ (by omega)
          have e6 : IntKind.i64.wrap (i * j) = i * j := IntWalk.i64_in _ (by omega)
          have e7 : IntKind.i64.wrap (q3 - 2 - j - i * g - i * j) = q3 - 2 - j - i * g - i * j := IntWalk.i64_in _ (by omega)
          clear he
          have R4 := Lib.hid r4; clear r4
          have R5 := Lib.hid r5; clear r5
          go_wp2_with fail
          refine (R4.out _).mono ?_
          rintro e u14 ⟨rfl, hb14⟩
          have HU14 : Hid (Below w.heap.size w u14) := Lib.hid (HU13.out.trans (hb14.mono HU13.out.size)); clear hb14
          go_wp2_with fail
          refine (R5.out _).mono ?_
          rintro e u15 ⟨rfl, hb15⟩
          have HU15 : Hid (Below w.heap.size w u15) := Lib.hid (HU14.out.trans (hb15.mono HU14.out.size)); clear hb15
          go_wp2
          go_ret
          exact ⟨by first | rfl | simp [HE.out], HU15.out⟩
      | true =>
        obtain ⟨m, A, X, rfl, hm, k6, k7, k8, k9⟩ := K5.out rfl
        clear K5
        obtain ⟨S, Y, l1, l2, l3⟩ := loops_of m hm X d
        rw [k8] at l2
        clear k8
        have L1 := Lib.hid l1; clear l1
        have L2 := Lib.hid l2; clear l2
        have L3 := Lib.hid l3; clear l3
        have K9 := Lib.hid k9; clear k9
        have K6 := Lib.hid k6; clear k6
        have K7 := Lib.hid k7; clear k7
        go_wp2_with fail
        go_loopw [27, 28] (fun va vx wr => ∃ x : Nat, x ≤ m ∧ va = .int .i64 (S x) ∧ vx = .int .i64 x ∧ Below u10.heap.size u10 wr) (fun _ vx _ => m - (intOf vx).toNat)
        case atStart => exact ⟨0, Nat.zero_le _, by rw [L1.out], rfl, Below.refl _ _⟩
        case round =>
          obtain ⟨x, hx, rfl, rfl, hbw⟩ := hrel
          obtain ⟨wo, rfl⟩ : ∃ z : World, z = wr := ⟨_, rfl⟩
          have HBW := Lib.hid hbw; clear hbw
          by_cases hlt : x < m
          · obtain ⟨y0, y1, y2⟩ := L3.out x hlt
            have Y0 := Lib.hid y0; clear y0
            have Y1 := Lib.hid y1; clear y1
            have Y2 := Lib.hid y2; clear y2
            have KX := Lib.hid (K6.out x hlt)
            have KY := Lib.hid (fun y hy => K7.out x y hlt hy)
            go_wp2_with fail
            go_loopw [27, 29] (fun va vy ws => ∃ y : Nat, y ≤ m ∧ va = .int .i64 (Y x y) ∧ vy = .int .i64 y ∧ Below wo.heap.size wo ws) (fun _ vy _ => m - (intOf vy).toNat)
            case atStart => exact ⟨0, Nat.zero_le _, by rw [Y0.out], rfl, Below.refl _ _⟩
            case round =>
              obtain ⟨y, hy, rfl, rfl, hbs⟩ := hrel
              have HBS := Lib.hid hbs; clear hbs
              by_cases hlt2 : y < m
              · obtain ⟨⟨b0, b1⟩, b2, b3⟩ := Y2.out y hlt2
                have KZ := Lib.hid (K6.out y hlt2)
                have KW := Lib.hid (KY.out y hlt2)
                generalize X x y = V at *
                obtain ⟨N, hN⟩ : ∃ N, Y x (y + 1) = N := ⟨_, rfl⟩
                rw [hN] at b2 b3
                have HN := Lib.hid hN; clear hN
                generalize Y x y = T at *
                generalize A x = A1 at *
                go_wp2_with fail
                refine (KX.out _).mono ?_
                rintro e v1 ⟨rfl, hv1⟩
                have HV1 := Lib.hid (HBS.out.trans (hv1.mono HBS.out.size)); clear hv1
                go_wp2_with fail
                refine (KZ.out _).mono ?_
                rintro e v2 ⟨rfl, hv2⟩
                have HV2 := Lib.hid (HV1.out.trans (hv2.mono HV1.out.size)); clear hv2
                go_wp2_with fail
                refine (KW.out _).mono ?_
                rintro e v3 ⟨rfl, hv3⟩
                have HV3 := Lib.hid (HV2.out.trans (hv3.mono HV2.out.size)); clear hv3
                by_cases hd : V = d
                · have hN2 := Lib.hid (b2 hd)
                  have hw0 : IntKind.i64.wrap (T + 1) = T + 1 := IntWalk.i64_in _ (by omega)
                  clear b2 b3
                  go_wp2
                  go_roundw
                  case rel => exact ⟨y + 1, by omega, by rw [HN.out, hN2.out], by go_num, HV3.out⟩
                  case measure => simp [intOf]; omega
                · have hN2 := Lib.hid (b3 hd)
                  clear b2 b3
                  go_wp2
                  go_roundw
                  case rel => exact ⟨y + 1, by omega, by rw [HN.out, hN2.out], by go_num, HV3.out⟩
                  case measure => simp [intOf]; omega
              · obtain rfl : m = y := by omega
                rw [Y1.out]
                have HBT := Lib.hid (HBW.out.trans (HBS.out.mono HBW.out.size))
                clear Y0 Y1 Y2 KX KY
                go_wp2
                go_roundw
                case rel => exact ⟨x + 1, by omega, rfl, by go_num, HBT.out⟩
                case measure => simp [intOf]; omega
          · obtain rfl : m = x := by omega
            rw [L2.out]
            have HU11 : Hid (Below w.heap.size w wo) := Lib.hid (HU10.out.trans (HBW.out.mono HU10.out.size))
            clear L1 L2 L3 K6 K7 HBW
            have hw0 : IntKind.i64.wrap ((m : Int) - 1) = (m : Int) - 1 := IntWalk.i64_in _ (by omega)
            by_cases hd : d = 0
            · subst hd
              obtain rfl : t2 = (m : Int) - 1 := by have := K9.out; rwa [if_pos rfl] at this
              clear K9
              go_wp2_with fail
              refine (drawCountRuns_any a1 n1 c1 _ (H1.out.below HU11.out)).mono ?_
              rintro e u12 ⟨q3, i, j, rfl, hb12⟩
              have HU12 : Hid (Below w.heap.size w u12) := Lib.hid (HU11.out.trans (hb12.mono HU11.out.size)); clear hb12
              obtain ⟨s3, o3, r1, r2, r3⟩ := ask_Runs q3 i j
              have R1 := Lib.hid r1; clear r1
              have R2 := Lib.hid r2; clear r2
              have R3 := Lib.hid r3; clear r3
              go_wp2_with fail
              refine (R1.out _).mono ?_
              rintro e u13 ⟨rfl, hb13⟩
              have HU13 : Hid (Below w.heap.size w u13) := Lib.hid (HU12.out.trans (hb13.mono HU12.out.size)); clear hb13
              go_wp2_with fail
              refine (R2.out _).mono ?_
              rintro e u14 ⟨rfl, hb14⟩
              have HU14 : Hid (Below w.heap.size w u14) := Lib.hid (HU13.out.trans (hb14.mono HU13.out.size)); clear hb14
              cases o3 with
              | false =>
                go_wp2
                go_ret
                exact ⟨rfl, HU14.out⟩
              | true =>
                obtain ⟨n, g, r4, r5, he, q0, q1, j0, j1, g0, g1, k0, k1⟩ := R3.out rfl
                clear R3
                have HE := Lib.hid he
                have e1 : IntKind.i64.wrap (4 * s3) = 4 * s3 := IntWalk.i64_in _ (by omega)
                have e2 : IntKind.i64.wrap (q3 - 2) = q3 - 2 := IntWalk.i64_in _ (by omega)
                have e3 : IntKind.i64.wrap (q3 - 2 - j) = q3 - 2 - j := IntWalk.i64_in _ (by omega)
                have e4 : IntKind.i64.wrap (i * g) = i * g := IntWalk.i64_in _ (by omega)
                have e5 : IntKind.i64.wrap (q3 - 2 - j - i * g) = q3 - 2 - j - i * g := IntWalk.i64_in _ (by omega)
                have e6 : IntKind.i64.wrap (i * j) = i * j := IntWalk.i64_in _ (by omega)
                have e7 : IntKind.i64.wrap (q3 - 2 - j - i * g - i * j) = q3 - 2 - j - i * g - i * j := IntWalk.i64_in _ (by omega)
                clear he
                have R4 := Lib.hid r4; clear r4
                have R5 := Lib.hid r5; clear r5
                go_wp2_with fail
                refine (R4.out _).mono ?_
                rintro e u15 ⟨rfl, hb15⟩
                have HU15 : Hid (Below w.heap.size w u15) := Lib.hid (HU14.out.trans (hb15.mono HU14.out.size)); clear hb15
                go_wp2_with fail
                refine (R5.out _).mono ?_
                rintro e u16 ⟨rfl, hb16⟩
                have HU16 : Hid (Below w.heap.size w u16) := Lib.hid (HU15.out.trans (hb16.mono HU15.out.size)); clear hb16
                go_wp2
                go_ret
                exact ⟨by first | rfl | simp [HE.out], HU16.out⟩
            · obtain rfl : t2 = -1 := by have := K9.out; rwa [if_neg hd] at this
              clear K9
              go_wp2_with fail
              refine (drawCountRuns_any a1 n1 c1 _ (H1.out.below HU11.out)).mono ?_
              rintro e u12 ⟨q3, i, j, rfl, hb12⟩
              have HU12 : Hid (Below w.heap.size w u12) := Lib.hid (HU11.out.trans (hb12.mono HU11.out.size)); clear hb12
              obtain ⟨s3, o3, r1, r2, r3⟩ := ask_Runs q3 i j
              have R1 := Lib.hid r1; clear r1
              have R2 := Lib.hid r2; clear r2
              have R3 := Lib.hid r3; clear r3
              go_wp2_with fail
              refine (R1.out _).mono ?_
              rintro e u13 ⟨rfl, hb13⟩
              have HU13 : Hid (Below w.heap.size w u13) := Lib.hid (HU12.out.trans (hb13.mono HU12.out.size)); clear hb13
              go_wp2_with fail
              refine (R2.out _).mono ?_
              rintro e u14 ⟨rfl, hb14⟩
              have HU14 : Hid (Below w.heap.size w u14) := Lib.hid (HU13.out.trans (hb14.mono HU13.out.size)); clear hb14
              cases o3 with
              | false =>
                go_wp2
                go_ret
                exact ⟨rfl, HU14.out⟩
              | true =>
                obtain ⟨n, g, r4, r5, he, q0, q1, j0, j1, g0, g1, k0, k1⟩ := R3.out rfl
                clear R3
                have HE := Lib.hid he
                have e1 : IntKind.i64.wrap (4 * s3) = 4 * s3 := IntWalk.i64_in _ (by omega)
                have e2 : IntKind.i64.wrap (q3 - 2) = q3 - 2 := IntWalk.i64_in _ (by omega)
                have e3 : IntKind.i64.wrap (q3 - 2 - j) = q3 - 2 - j := IntWalk.i64_in _ (by omega)
                have e4 : IntKind.i64.wrap (i * g) = i * g := IntWalk.i64_in _ (by omega)
                have e5 : IntKind.i64.wrap (q3 - 2 - j - i * g) = q3 - 2 - j - i * g := IntWalk.i64_in _ (by omega)
                have e6 : IntKind.i64.wrap (i * j) = i * j := IntWalk.i64_in _ (by omega)
                have e7 : IntKind.i64.wrap (q3 - 2 - j - i * g - i * j) = q3 - 2 - j - i * g - i * j := IntWalk.i64_in _ (by omega)
                clear he
                have R4 := Lib.hid r4; clear r4
                have R5 := Lib.hid r5; clear r5
                go_wp2_with fail
                refine (R4.out _).mono ?_
                rintro e u15 ⟨rfl, hb15⟩
                have HU15 : Hid (Below w.heap.size w u15) := Lib.hid (HU14.out.trans (hb15.mono HU14.out.size)); clear hb15
                go_wp2_with fail
                refine (R5.out _).mono ?_
                rintro e u16 ⟨rfl, hb16⟩
                have HU16 : Hid (Below w.heap.size w u16) := Lib.hid (HU15.out.trans (hb16.mono HU15.out.size)); clear hb16
                go_wp2
                go_ret
                exact ⟨by first | rfl | simp [HE.out], HU16.out⟩
  · have HBG := Lib.hid (big_yesU a0 a1 n0 c0 n1 c1 w hbg)
    clear h0 h1 hbg
    go_enter Try.func3, Try.ntmps3
    go_wp2_with fail
    refine HBG.out.mono ?_
    rintro e _ ⟨rfl, rfl⟩
    go_wp2
    go_ret
    exact ⟨rfl, Below.refl _ _⟩
end Go.Proofs.Ytpjlolnnbbgikaa
