/- The walk of the general law FnCharactersMultiply (gen dy.py). -/
import Derived.Test.YtimpgbifnijkkabDU
import Derived.Deep.RegionHeld3
namespace Go.Proofs.Ytimpgbifnijkkab
open Go.RowKit
theorem mul_bd1 {x y : Int} (hx : -1 ≤ x ∧ x ≤ 1) (hy : -1 ≤ y ∧ y ≤ 1) : -1 ≤ x * y ∧ x * y ≤ 1 := by
  obtain rfl | rfl | rfl : x = -1 ∨ x = 0 ∨ x = 1 := by omega
  · omega
  · omega
  · omega
theorem sums_of (m : Nat) (hm : m ≤ 16) (Y : Nat → Int) (hY : ∀ b, -1 ≤ Y b ∧ Y b ≤ 1) : ∃ S : Nat → Int, S 0 = 0 ∧ S m = csm Y m ∧ ∀ x, x < m → (-16 ≤ S x ∧ S x ≤ 16) ∧ S (x + 1) = S x + Y x :=
  ⟨csm Y, rfl, rfl, fun x hx => ⟨by have := csm_bd hY x; omega, rfl⟩⟩
def sblk : Value → Nat
  | .slice (some a) _ _ => a.block
  | _ => 0
def scap : Value → Nat
  | .slice _ _ c => c
  | _ => 0
theorem RS.pairs {w : World} {B n : Nat} {v : Value} {F : Nat → List Int} {X : Nat → Value} {A C : Nat → Int} (h : RS w B v n F X) (hF : ∀ i, i < n → F i = [A i, C i]) :
    ∃ a cap g, ∃ (E K : Nat → Nat), v = .slice a n cap ∧ (0 < n → a = some ⟨g, 0, none⟩ ∧ g < w.heap.size) ∧
      ∀ i, i < n → w.cell? ⟨g, i, none⟩ = some (.slice (some ⟨E i, 0, none⟩) 2 (K i)) ∧ E i < w.heap.size ∧ w.cell? ⟨E i, 0, none⟩ = some (.int .i64 (A i)) ∧ w.cell? ⟨E i, 1, none⟩ = some (.int .i64 (C i)) := by
  by_cases hn : 0 < n
  · obtain ⟨g, cap, rfl, h1, h2, h3⟩ := h.form hn
    refine ⟨_, _, g, fun i => sblk (X i), fun i => scap (X i), rfl, fun _ => ⟨rfl, h2⟩, fun i hi => ?_⟩
    have hr := h.inner i hi
    rw [hF i hi] at hr
    obtain ⟨b, c, e, hb1, hb2⟩ := hr.form (by simp)
    rw [e] at hr
    have h4 := h3 i hi
    rw [e] at h4
    dsimp only
    rw [e]
    exact ⟨h4, hb2, hr.cell 0 (by simp), hr.cell 1 (by simp)⟩
  · obtain rfl : n = 0 := by omega
    obtain ⟨a, cap, rfl⟩ := h.empty
    exact ⟨a, cap, 0, fun _ => 0, fun _ => 0, rfl, fun h => absurd h (by omega), fun i hi => absurd hi (by omega)⟩
set_option maxRecDepth 100000 in
set_option maxHeartbeats 40000000 in
/-- laws.FnCharactersMultiply. -/
theorem walk_FnCharactersMultiply (a0 : Option Addr) (n0 c0 : Nat) (z0 : List Int) (a1 : Option Addr) (n1 c1 : Nat) (z1 : List Int) (w : World) (h0 : IsRow .u8 w a0 n0 c0 z0) (h1 : IsRow .u8 w a1 n1 c1 z1) :
    Calls Try.prog 7 #[.slice a0 n0 c0, .slice a1 n1 c1] w fun e w' => e = .returned (.bool true) ∧ Below w.heap.size w w' := by
  by_cases hbg : n0 + n1 ≤ 1048576
  · have HBG := Lib.hid (big_no a0 a1 n0 c0 n1 c1 w hbg)
    have H0 := Lib.hid (h0.bys (by omega))
    have H1 := Lib.hid (h1.bys (by omega))
    have HU0 : Hid (Below w.heap.size w w) := Lib.hid (Below.refl _ _)
    clear h0 h1 hbg
    go_enter Try.func7, Try.ntmps7
    go_wp2_with fail
    refine HBG.out.mono ?_
    rintro e _ ⟨rfl, rfl⟩
    clear HBG
    go_wp2_with fail
    refine (drawCharacterOf_any a0 n0 c0 _ H0.out).mono ?_
    rintro e u1 ⟨q, a, rfl, hb1⟩
    have HU1 : Hid (Below w.heap.size w u1) := Lib.hid (HU0.out.trans (hb1.mono HU0.out.size)); clear hb1
    obtain ⟨x, o, i1, i2, i3⟩ := ask_Char q a
    have I1 := Lib.hid i1; clear i1
    have I2 := Lib.hid i2; clear i2
    have I3 := Lib.hid i3; clear i3
    go_wp2_with fail
    refine (I1.out _).mono ?_
    rintro e u2 ⟨rfl, hb2⟩
    have HU2 : Hid (Below w.heap.size w u2) := Lib.hid (HU1.out.trans (hb2.mono HU1.out.size)); clear hb2
    go_wp2_with fail
    refine (I2.out _).mono ?_
    rintro e u3 ⟨rfl, hb3⟩
    have HU3 : Hid (Below w.heap.size w u3) := Lib.hid (HU2.out.trans (hb3.mono HU2.out.size)); clear hb3
    cases o with
    | false =>
      clear I3
      go_wp2_with fail
      refine (drawCountPoints_any a1 n1 c1 _ (H1.out.below HU3.out)).mono ?_
      rintro e u4 ⟨r, vl, l, rfl, hl40, hr, hb4⟩
      have SV0 := Lib.hid hr.sl; clear hr
      have HU4 : Hid (Below w.heap.size w u4) := Lib.hid (HU3.out.trans (hb4.mono HU3.out.size)); clear hb4
      obtain ⟨s, t, u, n, F, o2, hn, hF, k1, k2, k3, k4, k5, k6, k7, k8, k9⟩ := ask_Points r l (by omega)
      have HF := Lib.hid hF; clear hF
      have K1 := Lib.hid k1; clear k1
      have K2 := Lib.hid k2; clear k2
      have K3 := Lib.hid k3; clear k3
      have K4 := Lib.hid k4; clear k4
      have K5 := Lib.hid k5; clear k5
      have K6 := Lib.hid k6; clear k6
      have K7 := Lib.hid k7; clear k7
      have K8 := Lib.hid k8; clear k8
      have K9 := Lib.hid k9; clear k9
      go_wp2_with fail
      refine (K1.out _ vl SV0.out).mono ?_
      rintro e u5 ⟨rfl, hb5⟩
      have SV1 := Lib.hid (SV0.out.below hb5 (Nat.le_refl _)); clear SV0
      have HU5 : Hid (Below w.heap.size w u5) := Lib.hid (HU4.out.trans (hb5.mono HU4.out.size)); clear hb5
      go_wp2_with fail
      refine (K2.out _ vl SV1.out).mono ?_
      rintro e u6 ⟨rfl, hb6⟩
      have SV2 := Lib.hid (SV1.out.below hb6 (Nat.le_refl _)); clear SV1
      have HU6 : Hid (Below w.heap.size w u6) := Lib.hid (HU5.out.trans (hb6.mono HU5.out.size)); clear hb6
      go_wp2_with fail
      refine (K3.out _ vl SV2.out).mono ?_
      rintro e u7 ⟨vp, XP, rfl, hr, hb7⟩
      have SV3 := Lib.hid (SV2.out.below hb7 (Nat.le_refl _)); clear SV2
      have PA3 := Lib.hid hr; clear hr
      have HU7 : Hid (Below w.heap.size w u7) := Lib.hid (HU6.out.trans (hb7.mono HU6.out.size)); clear hb7
      go_wp2_with fail
      refine (K4.out _ vl SV3.out).mono ?_
      rintro e u8 ⟨vq, XQ, rfl, hr, hb8⟩
      have SV4 := Lib.hid (SV3.out.below hb8 (Nat.le_refl _)); clear SV3
      have PB4 := Lib.hid hr; clear hr
      have PA4 := Lib.hid (PA3.out.below hb8); clear PA3
      have HU8 : Hid (Below w.heap.size w u8) := Lib.hid (HU7.out.trans (hb8.mono HU7.out.size)); clear hb8
      go_wp2_with fail
      refine (K5.out _ vl SV4.out).mono ?_
      rintro e u9 ⟨rfl, hb9⟩
      have SV5 := Lib.hid (SV4.out.below hb9 (Nat.le_refl _)); clear SV4
      have PA5 := Lib.hid (PA4.out.below hb9); clear PA4
      have PB5 := Lib.hid (PB4.out.below hb9); clear PB4
      have HU9 : Hid (Below w.heap.size w u9) := Lib.hid (HU8.out.trans (hb9.mono HU8.out.size)); clear hb9
      go_wp2_with fail
      refine (K6.out _ vl SV5.out).mono ?_
      rintro e u10 ⟨rfl, hb10⟩
      have SV6 := Lib.hid (SV5.out.below hb10 (Nat.le_refl _)); clear SV5
      have PA6 := Lib.hid (PA5.out.below hb10); clear PA5
      have PB6 := Lib.hid (PB5.out.below hb10); clear PB5
      have HU10 : Hid (Below w.heap.size w u10) := Lib.hid (HU9.out.trans (hb10.mono HU9.out.size)); clear hb10
      go_wp2_with fail
      refine (K7.out _ vl SV6.out).mono ?_
      rintro e u11 ⟨rfl, hb11⟩
      have SV7 := Lib.hid (SV6.out.below hb11 (Nat.le_refl _)); clear SV6
      have PA7 := Lib.hid (PA6.out.below hb11); clear PA6
      have PB7 := Lib.hid (PB6.out.below hb11); clear PB6
      have HU11 : Hid (Below w.heap.size w u11) := Lib.hid (HU10.out.trans (hb11.mono HU10.out.size)); clear hb11
      go_wp2_with fail
      refine (K8.out _ vl SV7.out).mono ?_
      rintro e u12 ⟨rfl, hb12⟩
      have SV8 := Lib.hid (SV7.out.below hb12 (Nat.le_refl _)); clear SV7
      have PA8 := Lib.hid (PA7.out.below hb12); clear PA7
      have PB8 := Lib.hid (PB7.out.below hb12); clear PB7
      have HU12 : Hid (Below w.heap.size w u12) := Lib.hid (HU11.out.trans (hb12.mono HU11.out.size)); clear hb12
      go_wp2_with fail
      refine (tSameRows_same vp vq n F _ PA8.out.slsQ PB8.out.slsQ hn HF.out).mono ?_
      rintro e u13 ⟨rfl, hb13⟩
      have SV9 := Lib.hid (SV8.out.below hb13 (Nat.le_refl _)); clear SV8
      have PA9 := Lib.hid (PA8.out.below hb13); clear PA8 PB8
      have HU13 : Hid (Below w.heap.size w u13) := Lib.hid (HU12.out.trans (hb13.mono HU12.out.size)); clear hb13
      cases o2 with
      | false =>
        go_wp2
        go_ret
        exact ⟨rfl, HU13.out⟩
      | true =>
        obtain ⟨hs, hns, hst, q0, q1, g0, g1, hn256, X, Y, Z, hp⟩ := K9.out rfl
        clear K9 K1 K2 K3 K4 K5 K6 K7 K8
        obtain ⟨ap, cap, gp, E, KK, rfl, hap, hcl⟩ := PA9.out.pairs (fun i hi => (hp i hi).1)
        have HAP := Lib.hid hap; clear hap
        have HCL := Lib.hid hcl; clear hcl
        have HPP := Lib.hid hp; clear hp
        subst hns
        have e1 : IntKind.i64.wrap (r + u) = (n : Int) := by rw [hs]; exact IntWalk.i64_in _ (by omega)
        have e2 : IntKind.i64.wrap ((n : Int) + t) = 2 * r := by rw [hst]; exact IntWalk.i64_in _ (by omega)
        have e3 : IntKind.i64.wrap (2 * r) = 2 * r := IntWalk.i64_in _ (by omega)
        clear hs hst HF PA9
        go_wp2_with fail
        clear e1 e2 e3
        go_loopw [266] (fun vi wr => ∃ i : Nat, i ≤ n ∧ vi = .int .i64 i ∧ Below u13.heap.size u13 wr) (fun vi _ => n - (intOf vi).toNat)
        case atStart => exact ⟨0, Nat.zero_le _, rfl, Below.refl _ _⟩
        case round => as_aux_lemma =>
          obtain ⟨i, hi, rfl, hb⟩ := hrel
          by_cases hlt : i < n
          · obtain ⟨rfl, hgp⟩ := HAP.out (by omega)
            obtain ⟨hc0, hc1, hc2, hc3⟩ := HCL.out i hlt
            obtain ⟨_, t1, t2, t3⟩ := HPP.out i hlt
            have T1 := Lib.hid t1; clear t1
            have T2 := Lib.hid t2; clear t2
            have hz := hb.size
            have HB := Lib.hid hb; clear hb
            have HKEEP : Hid (∀ w', Below wr.heap.size wr w' → w'.cell? ⟨gp, i, none⟩ = some (.slice (some ⟨E i, 0, none⟩) 2 (KK i)) ∧ w'.cell? ⟨E i, 0, none⟩ = some (.int .i64 (X i)) ∧ w'.cell? ⟨E i, 1, none⟩ = some (.int .i64 (Y i))) := Lib.hid fun w' hw => by
              have hB : Below u13.heap.size u13 w' := HB.out.trans (hw.mono hz)
              exact ⟨(hB.cell (p := ⟨gp, i, none⟩) hgp).trans hc0, (hB.cell (p := ⟨E i, 0, none⟩) hc1).trans hc2, (hB.cell (p := ⟨E i, 1, none⟩) hc1).trans hc3⟩
            have HJ : Hid (∀ j, j + 1 = i → ∀ w', Below wr.heap.size wr w' → (w'.cell? ⟨gp, j, none⟩ = some (.slice (some ⟨E j, 0, none⟩) 2 (KK j)) ∧ w'.cell? ⟨E j, 0, none⟩ = some (.int .i64 (X j)) ∧ w'.cell? ⟨E j, 1, none⟩ = some (.int .i64 (Y j))) ∧ E j < w'.heap.size) := Lib.hid fun j hj w' hw => by
              have hB : Below u13.heap.size u13 w' := HB.out.trans (hw.mono hz)
              obtain ⟨x0, x1, x2, x3⟩ := HCL.out j (by omega)
              exact ⟨⟨(hB.cell (p := ⟨gp, j, none⟩) hgp).trans x0, (hB.cell (p := ⟨E j, 0, none⟩) x1).trans x2, (hB.cell (p := ⟨E j, 1, none⟩) x1).trans x3⟩, by have := hB.size; omega⟩
            have HSV : Hid (∀ w', Below wr.heap.size wr w' → Sl w' vl l) := Lib.hid fun w' hw => SV9.out.below (HB.out.trans (hw.mono hz)) (Nat.le_refl _)
            have HT3 := Lib.hid t3; clear t3
            have hgw : gp < wr.heap.size := by omega
            have hew : E i < wr.heap.size := by omega
            clear hc0 hc2 hc3
            obtain ⟨x, hx⟩ : ∃ x, X i = x := ⟨_, rfl⟩
            obtain ⟨y, hy⟩ : ∃ y, Y i = y := ⟨_, rfl⟩
            rw [hx, hy] at HKEEP
            rw [hx] at T2
            rw [hy] at T1
            rw [hx, hy] at HT3
            clear hx hy
            generalize Z i = z at *
            obtain ⟨ei, hei⟩ : ∃ k, E i = k := ⟨_, rfl⟩
            obtain ⟨ki, hki⟩ : ∃ k, KK i = k := ⟨_, rfl⟩
            rw [hei, hki] at HKEEP
            rw [hei] at hew hc1
            clear hei hki
            obtain ⟨d0, d1, d2⟩ := HKEEP.out _ (Below.refl _ _)
            go_wp2_with fail
            clear d0
            clear d1 d2
            go_region_held3 (fun w' => w'.cell? ⟨ei, 1, none⟩ = some (.int .i64 y))
              (exact (HKEEP.out _ (by (try have hb3 := HB3.out); (repeat' (first | (with_reducible assumption) | (with_reducible exact Below.refl _ _) | (with_reducible refine below_drewN ?_ _) | (with_reducible refine Below.drew ?_) | (with_reducible refine Below.alloc ?_ ?_ _) | (with_reducible refine Below.setCell ?_ ?_ _) | (with_reducible refine Below.trans ?_ (Below.mono (by assumption) ?_)) | (with_reducible exact Nat.le_refl _) | (with_reducible assumption) | omega | (simp; omega) | (simp; done))))).2.2)
              (first | (go_at_call 27; refine (T1.out _).mono ?_; rintro e w3 ⟨rfl, hb3⟩; have HB3 := Lib.hid hb3; clear hb3))
            all_goals
              have hb3 := HB3.out
              have hb3' : Below wr.heap.size wr w3 := by (repeat' (first | (with_reducible assumption) | (with_reducible exact Below.refl _ _) | (with_reducible refine below_drewN ?_ _) | (with_reducible refine Below.drew ?_) | (with_reducible refine Below.alloc ?_ ?_ _) | (with_reducible refine Below.setCell ?_ ?_ _) | (with_reducible refine Below.trans ?_ (Below.mono (by assumption) ?_)) | (with_reducible exact Nat.le_refl _) | (with_reducible assumption) | omega | (simp; omega) | (simp; done)))
              have HB3' := Lib.hid hb3'
              obtain ⟨d0, d1, d2⟩ := HKEEP.out _ hb3'
              have hz3 := hb3'.size
              have hew3 : ei < w3.heap.size := by omega
              clear hb3 hb3' d0 d2
              go_wp2_with fail
              refine (T2.out _ vl (HSV.out _ HB3'.out)).mono ?_
              rintro e w4 ⟨rfl, hb4⟩
              have hb4' : Below wr.heap.size wr w4 := HB3'.out.trans (hb4.mono hz3)
              have HB4' := Lib.hid hb4'
              have HE := Lib.hid (HB.out.trans (hb4'.mono hz))
              obtain ⟨d0, d1, d2⟩ := HKEEP.out _ hb4'
              have hz4 := hb4'.size
              have hew4 : ei < w4.heap.size := by omega
              have hgw4 : gp < w4.heap.size := by omega
              clear hb4 hb4'
              rcases Nat.eq_zero_or_pos i with hi0 | hi0
              · subst hi0
                go_wp2_with fail
                go_region
                go_wp2_with fail
                go_roundw
                case rel => exact ⟨0 + 1, by omega, by go_num, HE.out.drew⟩
                case measure => simp [intOf]; omega
              · obtain ⟨j, hj⟩ : ∃ j, j + 1 = i := ⟨i - 1, by omega⟩
                obtain ⟨⟨f0, f1, f2⟩, f3⟩ := HJ.out j hj _ HB4'.out
                have ht3 := HT3.out j hj
                have hwi : IntKind.i64.wrap ((i : Int) - 1) = (j : Int) := by rw [IntWalk.i64_in _ (by omega)]; omega
                have hji : j < n := by omega
                clear HJ HT3 HKEEP hj
                generalize X j = xj at *
                generalize Y j = yj at *
                generalize E j = ej at *
                generalize KK j = kj at *
                rcases ht3 with ht | ⟨ht, ht2⟩
                · have hn1 : ¬ xj > x := by omega
                  have hn2 : ¬ xj = x := by omega
                  have hn3 : (xj == x) = false := by simp [hn2]
                  have hn4 : decide (xj = x) = false := by simp [hn2]
                  have hn5 : decide (x < xj) = false := by simp; omega
                  go_wp2_with fail
                  go_region
                  go_wp2_with fail
                  go_roundw
                  case rel => exact ⟨i + 1, by omega, by go_num, HE.out.drew⟩
                  case measure => simp [intOf]; omega
                · subst ht
                  have hn1 : ¬ yj ≥ y := by omega
                  go_wp2_with fail
                  go_region
                  go_wp2_with fail
                  go_roundw
                  case rel => exact ⟨i + 1, by omega, by go_num, HE.out.drew⟩
                  case measure => simp [intOf]; omega
          · obtain rfl : n = i := by omega
            have HE := Lib.hid (HU13.out.trans (hb.mono HU13.out.size))
            clear hb
            go_wp2
            go_ret
            exact ⟨rfl, HE.out⟩
    | true =>
      obtain ⟨m, Y, P, l, rfl, hm, hx1, hy1, hsum, hl, j1, j2, j3, j4, hdec⟩ := I3.out rfl
      clear I3
      obtain ⟨S, l1, l2, l3⟩ := sums_of m hm Y hy1
      rw [hsum] at l2
      clear hsum
      have L1 := Lib.hid l1; clear l1
      have L2 := Lib.hid l2; clear l2
      have L3 := Lib.hid l3; clear l3
      have HY := Lib.hid hy1; clear hy1
      have HX := Lib.hid hx1; clear hx1
      have HL := Lib.hid hl; clear hl
      have HD := Lib.hid hdec; clear hdec
      have J1 := Lib.hid j1; clear j1
      have J2 := Lib.hid j2; clear j2
      have J3 := Lib.hid j3; clear j3
      have J4 := Lib.hid j4; clear j4
      go_wp2_with fail
      go_loopw [11, 12] (fun va vx wr => ∃ b : Nat, b ≤ m ∧ va = .int .i64 (S b) ∧ vx = .int .i64 b ∧ Below u3.heap.size u3 wr) (fun _ vx _ => m - (intOf vx).toNat)
      case atStart => exact ⟨0, Nat.zero_le _, by rw [L1.out], rfl, Below.refl _ _⟩
      case round => as_aux_lemma =>
        obtain ⟨b, hb0, rfl, rfl, hbw⟩ := hrel
        have HBW := Lib.hid hbw; clear hbw
        by_cases hlt : b < m
        · obtain ⟨⟨s0, s1⟩, s2⟩ := L3.out b hlt
          have HS2 := Lib.hid s2; clear s2
          have y1 := HY.out b
          have x1 := HX.out
          have hxy := mul_bd1 x1 y1
          have JA := Lib.hid (fun w => J1.out b w hlt)
          have JB := Lib.hid (fun w => J2.out b w hlt)
          have JC := Lib.hid (fun w => J3.out b w hlt)
          generalize Y b = y at *
          generalize P b = p at *
          generalize S b = sb at *
          have hw1 : IntKind.i64.wrap (x * y) = x * y := IntWalk.i64_in _ (by omega)
          have hw2 : IntKind.i64.wrap (sb + y) = sb + y := IntWalk.i64_in _ (by omega)
          clear hxy x1
          go_wp2_with fail
          refine (JA.out _).mono ?_
          rintro e v1 ⟨rfl, hv1⟩
          have HV1 := Lib.hid (HBW.out.trans (hv1.mono HBW.out.size)); clear hv1
          go_wp2_with fail
          refine (JB.out _).mono ?_
          rintro e v2 ⟨rfl, hv2⟩
          have HV2 := Lib.hid (HV1.out.trans (hv2.mono HV1.out.size)); clear hv2
          go_wp2_with fail
          refine (JC.out _).mono ?_
          rintro e v3 ⟨rfl, hv3⟩
          have HV3 := Lib.hid (HV2.out.trans (hv3.mono HV2.out.size)); clear hv3
          go_wp2
          go_roundw
          case rel => exact ⟨b + 1, by omega, by rw [HS2.out], by go_num, HV3.out⟩
          case measure => simp [intOf]; omega
        · obtain rfl : m = b := by omega
          rw [L2.out]
          have HU4 : Hid (Below w.heap.size w wr) := Lib.hid (HU3.out.trans (HBW.out.mono HU3.out.size))
          clear L1 L2 L3 HBW J1 J2 J3 HY
          go_wp2_with fail
          refine (J4.out _).mono ?_
          rintro e u5 ⟨vs, rfl, hr, hb5⟩
          have SQ := Lib.hid hr.sl; clear hr
          have HU5 : Hid (Below w.heap.size w u5) := Lib.hid (HU4.out.trans (hb5.mono HU4.out.size)); clear hb5
          have HT : Hid (Calls Try.prog 29 #[vs, .int .i64 a] u5 fun e w' => e = .returned (.bool (decide (0 ≤ x))) ∧ Below u5.heap.size u5 w') := Lib.hid (by have := tHas_any vs l a u5 SQ.out HL.out; rwa [HD.out] at this)
          clear SQ HD HL J4
          by_cases hx0 : 0 ≤ x
          · rw [decide_eq_true hx0] at HT
            go_wp2_with fail
            refine (HT.out).mono ?_
            rintro e u6 ⟨rfl, hb6⟩
            clear HT
            have HU6 : Hid (Below w.heap.size w u6) := Lib.hid (HU5.out.trans (hb6.mono HU5.out.size)); clear hb6
            go_wp2_with fail
            refine (drawCountPoints_any a1 n1 c1 _ (H1.out.below HU6.out)).mono ?_
            rintro e u7 ⟨r, vl, l, rfl, hl40, hr, hb7⟩
            have SV0 := Lib.hid hr.sl; clear hr
            have HU7 : Hid (Below w.heap.size w u7) := Lib.hid (HU6.out.trans (hb7.mono HU6.out.size)); clear hb7
            obtain ⟨s, t, u, n, F, o2, hn, hF, k1, k2, k3, k4, k5, k6, k7, k8, k9⟩ := ask_Points r l (by omega)
            have HF := Lib.hid hF; clear hF
            have K1 := Lib.hid k1; clear k1
            have K2 := Lib.hid k2; clear k2
            have K3 := Lib.hid k3; clear k3
            have K4 := Lib.hid k4; clear k4
            have K5 := Lib.hid k5; clear k5
            have K6 := Lib.hid k6; clear k6
            have K7 := Lib.hid k7; clear k7
            have K8 := Lib.hid k8; clear k8
            have K9 := Lib.hid k9; clear k9
            go_wp2_with fail
            refine (K1.out _ vl SV0.out).mono ?_
            rintro e u8 ⟨rfl, hb8⟩
            have SV1 := Lib.hid (SV0.out.below hb8 (Nat.le_refl _)); clear SV0
            have HU8 : Hid (Below w.heap.size w u8) := Lib.hid (HU7.out.trans (hb8.mono HU7.out.size)); clear hb8
            go_wp2_with fail
            refine (K2.out _ vl SV1.out).mono ?_
            rintro e u9 ⟨rfl, hb9⟩
            have SV2 := Lib.hid (SV1.out.below hb9 (Nat.le_refl _)); clear SV1
            have HU9 : Hid (Below w.heap.size w u9) := Lib.hid (HU8.out.trans (hb9.mono HU8.out.size)); clear hb9
            go_wp2_with fail
            refine (K3.out _ vl SV2.out).mono ?_
            rintro e u10 ⟨vp, XP, rfl, hr, hb10⟩
            have SV3 := Lib.hid (SV2.out.below hb10 (Nat.le_refl _)); clear SV2
            have PA3 := Lib.hid hr; clear hr
            have HU10 : Hid (Below w.heap.size w u10) := Lib.hid (HU9.out.trans (hb10.mono HU9.out.size)); clear hb10
            go_wp2_with fail
            refine (K4.out _ vl SV3.out).mono ?_
            rintro e u11 ⟨vq, XQ, rfl, hr, hb11⟩
            have SV4 := Lib.hid (SV3.out.below hb11 (Nat.le_refl _)); clear SV3
            have PB4 := Lib.hid hr; clear hr
            have PA4 := Lib.hid (PA3.out.below hb11); clear PA3
            have HU11 : Hid (Below w.heap.size w u11) := Lib.hid (HU10.out.trans (hb11.mono HU10.out.size)); clear hb11
            go_wp2_with fail
            refine (K5.out _ vl SV4.out).mono ?_
            rintro e u12 ⟨rfl, hb12⟩
            have SV5 := Lib.hid (SV4.out.below hb12 (Nat.le_refl _)); clear SV4
            have PA5 := Lib.hid (PA4.out.below hb12); clear PA4
            have PB5 := Lib.hid (PB4.out.below hb12); clear PB4
            have HU12 : Hid (Below w.heap.size w u12) := Lib.hid (HU11.out.trans (hb12.mono HU11.out.size)); clear hb12
            go_wp2_with fail
            refine (K6.out _ vl SV5.out).mono ?_
            rintro e u13 ⟨rfl, hb13⟩
            have SV6 := Lib.hid (SV5.out.below hb13 (Nat.le_refl _)); clear SV5
            have PA6 := Lib.hid (PA5.out.below hb13); clear PA5
            have PB6 := Lib.hid (PB5.out.below hb13); clear PB5
            have HU13 : Hid (Below w.heap.size w u13) := Lib.hid (HU12.out.trans (hb13.mono HU12.out.size)); clear hb13
            go_wp2_with fail
            refine (K7.out _ vl SV6.out).mono ?_
            rintro e u14 ⟨rfl, hb14⟩
            have SV7 := Lib.hid (SV6.out.below hb14 (Nat.le_refl _)); clear SV6
            have PA7 := Lib.hid (PA6.out.below hb14); clear PA6
            have PB7 := Lib.hid (PB6.out.below hb14); clear PB6
            have HU14 : Hid (Below w.heap.size w u14) := Lib.hid (HU13.out.trans (hb14.mono HU13.out.size)); clear hb14
            go_wp2_with fail
            refine (K8.out _ vl SV7.out).mono ?_
            rintro e u15 ⟨rfl, hb15⟩
            have SV8 := Lib.hid (SV7.out.below hb15 (Nat.le_refl _)); clear SV7
            have PA8 := Lib.hid (PA7.out.below hb15); clear PA7
            have PB8 := Lib.hid (PB7.out.below hb15); clear PB7
            have HU15 : Hid (Below w.heap.size w u15) := Lib.hid (HU14.out.trans (hb15.mono HU14.out.size)); clear hb15
            go_wp2_with fail
            refine (tSameRows_same vp vq n F _ PA8.out.slsQ PB8.out.slsQ hn HF.out).mono ?_
            rintro e u16 ⟨rfl, hb16⟩
            have SV9 := Lib.hid (SV8.out.below hb16 (Nat.le_refl _)); clear SV8
            have PA9 := Lib.hid (PA8.out.below hb16); clear PA8 PB8
            have HU16 : Hid (Below w.heap.size w u16) := Lib.hid (HU15.out.trans (hb16.mono HU15.out.size)); clear hb16
            cases o2 with
            | false =>
              go_wp2
              go_ret
              exact ⟨rfl, HU16.out⟩
            | true =>
              obtain ⟨hs, hns, hst, q0, q1, g0, g1, hn256, X, Y, Z, hp⟩ := K9.out rfl
              clear K9 K1 K2 K3 K4 K5 K6 K7 K8
              obtain ⟨ap, cap, gp, E, KK, rfl, hap, hcl⟩ := PA9.out.pairs (fun i hi => (hp i hi).1)
              have HAP := Lib.hid hap; clear hap
              have HCL := Lib.hid hcl; clear hcl
              have HPP := Lib.hid hp; clear hp
              subst hns
              have e1 : IntKind.i64.wrap (r + u) = (n : Int) := by rw [hs]; exact IntWalk.i64_in _ (by omega)
              have e2 : IntKind.i64.wrap ((n : Int) + t) = 2 * r := by rw [hst]; exact IntWalk.i64_in _ (by omega)
              have e3 : IntKind.i64.wrap (2 * r) = 2 * r := IntWalk.i64_in _ (by omega)
              clear hs hst HF PA9
              go_wp2_with fail
              clear e1 e2 e3
              go_loopw [266] (fun vi wr => ∃ i : Nat, i ≤ n ∧ vi = .int .i64 i ∧ Below u16.heap.size u16 wr) (fun vi _ => n - (intOf vi).toNat)
              case atStart => exact ⟨0, Nat.zero_le _, rfl, Below.refl _ _⟩
              case round => as_aux_lemma =>
                obtain ⟨i, hi, rfl, hb⟩ := hrel
                by_cases hlt : i < n
                · obtain ⟨rfl, hgp⟩ := HAP.out (by omega)
                  obtain ⟨hc0, hc1, hc2, hc3⟩ := HCL.out i hlt
                  obtain ⟨_, t1, t2, t3⟩ := HPP.out i hlt
                  have T1 := Lib.hid t1; clear t1
                  have T2 := Lib.hid t2; clear t2
                  have hz := hb.size
                  have HB := Lib.hid hb; clear hb
                  have HKEEP : Hid (∀ w', Below wr.heap.size wr w' → w'.cell? ⟨gp, i, none⟩ = some (.slice (some ⟨E i, 0, none⟩) 2 (KK i)) ∧ w'.cell? ⟨E i, 0, none⟩ = some (.int .i64 (X i)) ∧ w'.cell? ⟨E i, 1, none⟩ = some (.int .i64 (Y i))) := Lib.hid fun w' hw => by
                    have hB : Below u16.heap.size u16 w' := HB.out.trans (hw.mono hz)
                    exact ⟨(hB.cell (p := ⟨gp, i, none⟩) hgp).trans hc0, (hB.cell (p := ⟨E i, 0, none⟩) hc1).trans hc2, (hB.cell (p := ⟨E i, 1, none⟩) hc1).trans hc3⟩
                  have HJ : Hid (∀ j, j + 1 = i → ∀ w', Below wr.heap.size wr w' → (w'.cell? ⟨gp, j, none⟩ = some (.slice (some ⟨E j, 0, none⟩) 2 (KK j)) ∧ w'.cell? ⟨E j, 0, none⟩ = some (.int .i64 (X j)) ∧ w'.cell? ⟨E j, 1, none⟩ = some (.int .i64 (Y j))) ∧ E j < w'.heap.size) := Lib.hid fun j hj w' hw => by
                    have hB : Below u16.heap.size u16 w' := HB.out.trans (hw.mono hz)
                    obtain ⟨x0, x1, x2, x3⟩ := HCL.out j (by omega)
                    exact ⟨⟨(hB.cell (p := ⟨gp, j, none⟩) hgp).trans x0, (hB.cell (p := ⟨E j, 0, none⟩) x1).trans x2, (hB.cell (p := ⟨E j, 1, none⟩) x1).trans x3⟩, by have := hB.size; omega⟩
                  have HSV : Hid (∀ w', Below wr.heap.size wr w' → Sl w' vl l) := Lib.hid fun w' hw => SV9.out.below (HB.out.trans (hw.mono hz)) (Nat.le_refl _)
                  have HT3 := Lib.hid t3; clear t3
                  have hgw : gp < wr.heap.size := by omega
                  have hew : E i < wr.heap.size := by omega
                  clear hc0 hc2 hc3
                  obtain ⟨x, hx⟩ : ∃ x, X i = x := ⟨_, rfl⟩
                  obtain ⟨y, hy⟩ : ∃ y, Y i = y := ⟨_, rfl⟩
                  rw [hx, hy] at HKEEP
                  rw [hx] at T2
                  rw [hy] at T1
                  rw [hx, hy] at HT3
                  clear hx hy
                  generalize Z i = z at *
                  obtain ⟨ei, hei⟩ : ∃ k, E i = k := ⟨_, rfl⟩
                  obtain ⟨ki, hki⟩ : ∃ k, KK i = k := ⟨_, rfl⟩
                  rw [hei, hki] at HKEEP
                  rw [hei] at hew hc1
                  clear hei hki
                  obtain ⟨d0, d1, d2⟩ := HKEEP.out _ (Below.refl _ _)
                  go_wp2_with fail
                  clear d0
                  clear d1 d2
                  go_region_held3 (fun w' => w'.cell? ⟨ei, 1, none⟩ = some (.int .i64 y))
                    (exact (HKEEP.out _ (by (try have hb3 := HB3.out); (repeat' (first | (with_reducible assumption) | (with_reducible exact Below.refl _ _) | (with_reducible refine below_drewN ?_ _) | (with_reducible refine Below.drew ?_) | (with_reducible refine Below.alloc ?_ ?_ _) | (with_reducible refine Below.setCell ?_ ?_ _) | (with_reducible refine Below.trans ?_ (Below.mono (by assumption) ?_)) | (with_reducible exact Nat.le_refl _) | (with_reducible assumption) | omega | (simp; omega) | (simp; done))))).2.2)
                    (first | (go_at_call 27; refine (T1.out _).mono ?_; rintro e w3 ⟨rfl, hb3⟩; have HB3 := Lib.hid hb3; clear hb3))
                  all_goals
                    have hb3 := HB3.out
                    have hb3' : Below wr.heap.size wr w3 := by (repeat' (first | (with_reducible assumption) | (with_reducible exact Below.refl _ _) | (with_reducible refine below_drewN ?_ _) | (with_reducible refine Below.drew ?_) | (with_reducible refine Below.alloc ?_ ?_ _) | (with_reducible refine Below.setCell ?_ ?_ _) | (with_reducible refine Below.trans ?_ (Below.mono (by assumption) ?_)) | (with_reducible exact Nat.le_refl _) | (with_reducible assumption) | omega | (simp; omega) | (simp; done)))
                    have HB3' := Lib.hid hb3'
                    obtain ⟨d0, d1, d2⟩ := HKEEP.out _ hb3'
                    have hz3 := hb3'.size
                    have hew3 : ei < w3.heap.size := by omega
                    clear hb3 hb3' d0 d2
                    go_wp2_with fail
                    refine (T2.out _ vl (HSV.out _ HB3'.out)).mono ?_
                    rintro e w4 ⟨rfl, hb4⟩
                    have hb4' : Below wr.heap.size wr w4 := HB3'.out.trans (hb4.mono hz3)
                    have HB4' := Lib.hid hb4'
                    have HE := Lib.hid (HB.out.trans (hb4'.mono hz))
                    obtain ⟨d0, d1, d2⟩ := HKEEP.out _ hb4'
                    have hz4 := hb4'.size
                    have hew4 : ei < w4.heap.size := by omega
                    have hgw4 : gp < w4.heap.size := by omega
                    clear hb4 hb4'
                    rcases Nat.eq_zero_or_pos i with hi0 | hi0
                    · subst hi0
                      go_wp2_with fail
                      go_region
                      go_wp2_with fail
                      go_roundw
                      case rel => exact ⟨0 + 1, by omega, by go_num, HE.out.drew⟩
                      case measure => simp [intOf]; omega
                    · obtain ⟨j, hj⟩ : ∃ j, j + 1 = i := ⟨i - 1, by omega⟩
                      obtain ⟨⟨f0, f1, f2⟩, f3⟩ := HJ.out j hj _ HB4'.out
                      have ht3 := HT3.out j hj
                      have hwi : IntKind.i64.wrap ((i : Int) - 1) = (j : Int) := by rw [IntWalk.i64_in _ (by omega)]; omega
                      have hji : j < n := by omega
                      clear HJ HT3 HKEEP hj
                      generalize X j = xj at *
                      generalize Y j = yj at *
                      generalize E j = ej at *
                      generalize KK j = kj at *
                      rcases ht3 with ht | ⟨ht, ht2⟩
                      · have hn1 : ¬ xj > x := by omega
                        have hn2 : ¬ xj = x := by omega
                        have hn3 : (xj == x) = false := by simp [hn2]
                        have hn4 : decide (xj = x) = false := by simp [hn2]
                        have hn5 : decide (x < xj) = false := by simp; omega
                        go_wp2_with fail
                        go_region
                        go_wp2_with fail
                        go_roundw
                        case rel => exact ⟨i + 1, by omega, by go_num, HE.out.drew⟩
                        case measure => simp [intOf]; omega
                      · subst ht
                        have hn1 : ¬ yj ≥ y := by omega
                        go_wp2_with fail
                        go_region
                        go_wp2_with fail
                        go_roundw
                        case rel => exact ⟨i + 1, by omega, by go_num, HE.out.drew⟩
                        case measure => simp [intOf]; omega
                · obtain rfl : n = i := by omega
                  have HE := Lib.hid (HU16.out.trans (hb.mono HU16.out.size))
                  clear hb
                  go_wp2
                  go_ret
                  exact ⟨rfl, HE.out⟩
          · rw [decide_eq_false hx0] at HT
            go_wp2_with fail
            refine (HT.out).mono ?_
            rintro e u6 ⟨rfl, hb6⟩
            clear HT
            have HU6 : Hid (Below w.heap.size w u6) := Lib.hid (HU5.out.trans (hb6.mono HU5.out.size)); clear hb6
            go_wp2_with fail
            refine (drawCountPoints_any a1 n1 c1 _ (H1.out.below HU6.out)).mono ?_
            rintro e u7 ⟨r, vl, l, rfl, hl40, hr, hb7⟩
            have SV0 := Lib.hid hr.sl; clear hr
            have HU7 : Hid (Below w.heap.size w u7) := Lib.hid (HU6.out.trans (hb7.mono HU6.out.size)); clear hb7
            obtain ⟨s, t, u, n, F, o2, hn, hF, k1, k2, k3, k4, k5, k6, k7, k8, k9⟩ := ask_Points r l (by omega)
            have HF := Lib.hid hF; clear hF
            have K1 := Lib.hid k1; clear k1
            have K2 := Lib.hid k2; clear k2
            have K3 := Lib.hid k3; clear k3
            have K4 := Lib.hid k4; clear k4
            have K5 := Lib.hid k5; clear k5
            have K6 := Lib.hid k6; clear k6
            have K7 := Lib.hid k7; clear k7
            have K8 := Lib.hid k8; clear k8
            have K9 := Lib.hid k9; clear k9
            go_wp2_with fail
            refine (K1.out _ vl SV0.out).mono ?_
            rintro e u8 ⟨rfl, hb8⟩
            have SV1 := Lib.hid (SV0.out.below hb8 (Nat.le_refl _)); clear SV0
            have HU8 : Hid (Below w.heap.size w u8) := Lib.hid (HU7.out.trans (hb8.mono HU7.out.size)); clear hb8
            go_wp2_with fail
            refine (K2.out _ vl SV1.out).mono ?_
            rintro e u9 ⟨rfl, hb9⟩
            have SV2 := Lib.hid (SV1.out.below hb9 (Nat.le_refl _)); clear SV1
            have HU9 : Hid (Below w.heap.size w u9) := Lib.hid (HU8.out.trans (hb9.mono HU8.out.size)); clear hb9
            go_wp2_with fail
            refine (K3.out _ vl SV2.out).mono ?_
            rintro e u10 ⟨vp, XP, rfl, hr, hb10⟩
            have SV3 := Lib.hid (SV2.out.below hb10 (Nat.le_refl _)); clear SV2
            have PA3 := Lib.hid hr; clear hr
            have HU10 : Hid (Below w.heap.size w u10) := Lib.hid (HU9.out.trans (hb10.mono HU9.out.size)); clear hb10
            go_wp2_with fail
            refine (K4.out _ vl SV3.out).mono ?_
            rintro e u11 ⟨vq, XQ, rfl, hr, hb11⟩
            have SV4 := Lib.hid (SV3.out.below hb11 (Nat.le_refl _)); clear SV3
            have PB4 := Lib.hid hr; clear hr
            have PA4 := Lib.hid (PA3.out.below hb11); clear PA3
            have HU11 : Hid (Below w.heap.size w u11) := Lib.hid (HU10.out.trans (hb11.mono HU10.out.size)); clear hb11
            go_wp2_with fail
            refine (K5.out _ vl SV4.out).mono ?_
            rintro e u12 ⟨rfl, hb12⟩
            have SV5 := Lib.hid (SV4.out.below hb12 (Nat.le_refl _)); clear SV4
            have PA5 := Lib.hid (PA4.out.below hb12); clear PA4
            have PB5 := Lib.hid (PB4.out.below hb12); clear PB4
            have HU12 : Hid (Below w.heap.size w u12) := Lib.hid (HU11.out.trans (hb12.mono HU11.out.size)); clear hb12
            go_wp2_with fail
            refine (K6.out _ vl SV5.out).mono ?_
            rintro e u13 ⟨rfl, hb13⟩
            have SV6 := Lib.hid (SV5.out.below hb13 (Nat.le_refl _)); clear SV5
            have PA6 := Lib.hid (PA5.out.below hb13); clear PA5
            have PB6 := Lib.hid (PB5.out.below hb13); clear PB5
            have HU13 : Hid (Below w.heap.size w u13) := Lib.hid (HU12.out.trans (hb13.mono HU12.out.size)); clear hb13
            go_wp2_with fail
            refine (K7.out _ vl SV6.out).mono ?_
            rintro e u14 ⟨rfl, hb14⟩
            have SV7 := Lib.hid (SV6.out.below hb14 (Nat.le_refl _)); clear SV6
            have PA7 := Lib.hid (PA6.out.below hb14); clear PA6
            have PB7 := Lib.hid (PB6.out.below hb14); clear PB6
            have HU14 : Hid (Below w.heap.size w u14) := Lib.hid (HU13.out.trans (hb14.mono HU13.out.size)); clear hb14
            go_wp2_with fail
            refine (K8.out _ vl SV7.out).mono ?_
            rintro e u15 ⟨rfl, hb15⟩
            have SV8 := Lib.hid (SV7.out.below hb15 (Nat.le_refl _)); clear SV7
            have PA8 := Lib.hid (PA7.out.below hb15); clear PA7
            have PB8 := Lib.hid (PB7.out.below hb15); clear PB7
            have HU15 : Hid (Below w.heap.size w u15) := Lib.hid (HU14.out.trans (hb15.mono HU14.out.size)); clear hb15
            go_wp2_with fail
            refine (tSameRows_same vp vq n F _ PA8.out.slsQ PB8.out.slsQ hn HF.out).mono ?_
            rintro e u16 ⟨rfl, hb16⟩
            have SV9 := Lib.hid (SV8.out.below hb16 (Nat.le_refl _)); clear SV8
            have PA9 := Lib.hid (PA8.out.below hb16); clear PA8 PB8
            have HU16 : Hid (Below w.heap.size w u16) := Lib.hid (HU15.out.trans (hb16.mono HU15.out.size)); clear hb16
            cases o2 with
            | false =>
              go_wp2
              go_ret
              exact ⟨rfl, HU16.out⟩
            | true =>
              obtain ⟨hs, hns, hst, q0, q1, g0, g1, hn256, X, Y, Z, hp⟩ := K9.out rfl
              clear K9 K1 K2 K3 K4 K5 K6 K7 K8
              obtain ⟨ap, cap, gp, E, KK, rfl, hap, hcl⟩ := PA9.out.pairs (fun i hi => (hp i hi).1)
              have HAP := Lib.hid hap; clear hap
              have HCL := Lib.hid hcl; clear hcl
              have HPP := Lib.hid hp; clear hp
              subst hns
              have e1 : IntKind.i64.wrap (r + u) = (n : Int) := by rw [hs]; exact IntWalk.i64_in _ (by omega)
              have e2 : IntKind.i64.wrap ((n : Int) + t) = 2 * r := by rw [hst]; exact IntWalk.i64_in _ (by omega)
              have e3 : IntKind.i64.wrap (2 * r) = 2 * r := IntWalk.i64_in _ (by omega)
              clear hs hst HF PA9
              go_wp2_with fail
              clear e1 e2 e3
              go_loopw [266] (fun vi wr => ∃ i : Nat, i ≤ n ∧ vi = .int .i64 i ∧ Below u16.heap.size u16 wr) (fun vi _ => n - (intOf vi).toNat)
              case atStart => exact ⟨0, Nat.zero_le _, rfl, Below.refl _ _⟩
              case round => as_aux_lemma =>
                obtain ⟨i, hi, rfl, hb⟩ := hrel
                by_cases hlt : i < n
                · obtain ⟨rfl, hgp⟩ := HAP.out (by omega)
                  obtain ⟨hc0, hc1, hc2, hc3⟩ := HCL.out i hlt
                  obtain ⟨_, t1, t2, t3⟩ := HPP.out i hlt
                  have T1 := Lib.hid t1; clear t1
                  have T2 := Lib.hid t2; clear t2
                  have hz := hb.size
                  have HB := Lib.hid hb; clear hb
                  have HKEEP : Hid (∀ w', Below wr.heap.size wr w' → w'.cell? ⟨gp, i, none⟩ = some (.slice (some ⟨E i, 0, none⟩) 2 (KK i)) ∧ w'.cell? ⟨E i, 0, none⟩ = some (.int .i64 (X i)) ∧ w'.cell? ⟨E i, 1, none⟩ = some (.int .i64 (Y i))) := Lib.hid fun w' hw => by
                    have hB : Below u16.heap.size u16 w' := HB.out.trans (hw.mono hz)
                    exact ⟨(hB.cell (p := ⟨gp, i, none⟩) hgp).trans hc0, (hB.cell (p := ⟨E i, 0, none⟩) hc1).trans hc2, (hB.cell (p := ⟨E i, 1, none⟩) hc1).trans hc3⟩
                  have HJ : Hid (∀ j, j + 1 = i → ∀ w', Below wr.heap.size wr w' → (w'.cell? ⟨gp, j, none⟩ = some (.slice (some ⟨E j, 0, none⟩) 2 (KK j)) ∧ w'.cell? ⟨E j, 0, none⟩ = some (.int .i64 (X j)) ∧ w'.cell? ⟨E j, 1, none⟩ = some (.int .i64 (Y j))) ∧ E j < w'.heap.size) := Lib.hid fun j hj w' hw => by
                    have hB : Below u16.heap.size u16 w' := HB.out.trans (hw.mono hz)
                    obtain ⟨x0, x1, x2, x3⟩ := HCL.out j (by omega)
                    exact ⟨⟨(hB.cell (p := ⟨gp, j, none⟩) hgp).trans x0, (hB.cell (p := ⟨E j, 0, none⟩) x1).trans x2, (hB.cell (p := ⟨E j, 1, none⟩) x1).trans x3⟩, by have := hB.size; omega⟩
                  have HSV : Hid (∀ w', Below wr.heap.size wr w' → Sl w' vl l) := Lib.hid fun w' hw => SV9.out.below (HB.out.trans (hw.mono hz)) (Nat.le_refl _)
                  have HT3 := Lib.hid t3; clear t3
                  have hgw : gp < wr.heap.size := by omega
                  have hew : E i < wr.heap.size := by omega
                  clear hc0 hc2 hc3
                  obtain ⟨x, hx⟩ : ∃ x, X i = x := ⟨_, rfl⟩
                  obtain ⟨y, hy⟩ : ∃ y, Y i = y := ⟨_, rfl⟩
                  rw [hx, hy] at HKEEP
                  rw [hx] at T2
                  rw [hy] at T1
                  rw [hx, hy] at HT3
                  clear hx hy
                  generalize Z i = z at *
                  obtain ⟨ei, hei⟩ : ∃ k, E i = k := ⟨_, rfl⟩
                  obtain ⟨ki, hki⟩ : ∃ k, KK i = k := ⟨_, rfl⟩
                  rw [hei, hki] at HKEEP
                  rw [hei] at hew hc1
                  clear hei hki
                  obtain ⟨d0, d1, d2⟩ := HKEEP.out _ (Below.refl _ _)
                  go_wp2_with fail
                  clear d0
                  clear d1 d2
                  go_region_held3 (fun w' => w'.cell? ⟨ei, 1, none⟩ = some (.int .i64 y))
                    (exact (HKEEP.out _ (by (try have hb3 := HB3.out); (repeat' (first | (with_reducible assumption) | (with_reducible exact Below.refl _ _) | (with_reducible refine below_drewN ?_ _) | (with_reducible refine Below.drew ?_) | (with_reducible refine Below.alloc ?_ ?_ _) | (with_reducible refine Below.setCell ?_ ?_ _) | (with_reducible refine Below.trans ?_ (Below.mono (by assumption) ?_)) | (with_reducible exact Nat.le_refl _) | (with_reducible assumption) | omega | (simp; omega) | (simp; done))))).2.2)
                    (first | (go_at_call 27; refine (T1.out _).mono ?_; rintro e w3 ⟨rfl, hb3⟩; have HB3 := Lib.hid hb3; clear hb3))
                  all_goals
                    have hb3 := HB3.out
                    have hb3' : Below wr.heap.size wr w3 := by (repeat' (first | (with_reducible assumption) | (with_reducible exact Below.refl _ _) | (with_reducible refine below_drewN ?_ _) | (with_reducible refine Below.drew ?_) | (with_reducible refine Below.alloc ?_ ?_ _) | (with_reducible refine Below.setCell ?_ ?_ _) | (with_reducible refine Below.trans ?_ (Below.mono (by assumption) ?_)) | (with_reducible exact Nat.le_refl _) | (with_reducible assumption) | omega | (simp; omega) | (simp; done)))
                    have HB3' := Lib.hid hb3'
                    obtain ⟨d0, d1, d2⟩ := HKEEP.out _ hb3'
                    have hz3 := hb3'.size
                    have hew3 : ei < w3.heap.size := by omega
                    clear hb3 hb3' d0 d2
                    go_wp2_with fail
                    refine (T2.out _ vl (HSV.out _ HB3'.out)).mono ?_
                    rintro e w4 ⟨rfl, hb4⟩
                    have hb4' : Below wr.heap.size wr w4 := HB3'.out.trans (hb4.mono hz3)
                    have HB4' := Lib.hid hb4'
                    have HE := Lib.hid (HB.out.trans (hb4'.mono hz))
                    obtain ⟨d0, d1, d2⟩ := HKEEP.out _ hb4'
                    have hz4 := hb4'.size
                    have hew4 : ei < w4.heap.size := by omega
                    have hgw4 : gp < w4.heap.size := by omega
                    clear hb4 hb4'
                    rcases Nat.eq_zero_or_pos i with hi0 | hi0
                    · subst hi0
                      go_wp2_with fail
                      go_region
                      go_wp2_with fail
                      go_roundw
                      case rel => exact ⟨0 + 1, by omega, by go_num, HE.out.drew⟩
                      case measure => simp [intOf]; omega
                    · obtain ⟨j, hj⟩ : ∃ j, j + 1 = i := ⟨i - 1, by omega⟩
                      obtain ⟨⟨f0, f1, f2⟩, f3⟩ := HJ.out j hj _ HB4'.out
                      have ht3 := HT3.out j hj
                      have hwi : IntKind.i64.wrap ((i : Int) - 1) = (j : Int) := by rw [IntWalk.i64_in _ (by omega)]; omega
                      have hji : j < n := by omega
                      clear HJ HT3 HKEEP hj
                      generalize X j = xj at *
                      generalize Y j = yj at *
                      generalize E j = ej at *
                      generalize KK j = kj at *
                      rcases ht3 with ht | ⟨ht, ht2⟩
                      · have hn1 : ¬ xj > x := by omega
                        have hn2 : ¬ xj = x := by omega
                        have hn3 : (xj == x) = false := by simp [hn2]
                        have hn4 : decide (xj = x) = false := by simp [hn2]
                        have hn5 : decide (x < xj) = false := by simp; omega
                        go_wp2_with fail
                        go_region
                        go_wp2_with fail
                        go_roundw
                        case rel => exact ⟨i + 1, by omega, by go_num, HE.out.drew⟩
                        case measure => simp [intOf]; omega
                      · subst ht
                        have hn1 : ¬ yj ≥ y := by omega
                        go_wp2_with fail
                        go_region
                        go_wp2_with fail
                        go_roundw
                        case rel => exact ⟨i + 1, by omega, by go_num, HE.out.drew⟩
                        case measure => simp [intOf]; omega
                · obtain rfl : n = i := by omega
                  have HE := Lib.hid (HU16.out.trans (hb.mono HU16.out.size))
                  clear hb
                  go_wp2
                  go_ret
                  exact ⟨rfl, HE.out⟩
  · have HBG := Lib.hid (big_yes a0 a1 n0 c0 n1 c1 w hbg)
    clear h0 h1 hbg
    go_enter Try.func7, Try.ntmps7
    go_wp2_with fail
    refine HBG.out.mono ?_
    rintro e _ ⟨rfl, rfl⟩
    go_wp2
    go_ret
    exact ⟨rfl, Below.refl _ _⟩
end Go.Proofs.Ytimpgbifnijkkab
