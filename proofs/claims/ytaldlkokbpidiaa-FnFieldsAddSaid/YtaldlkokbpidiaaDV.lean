/- The walk of the general law FnFieldsAdd. -/
import Derived.Test.YtaldlkokbpidiaaDZ
import Derived.Deep.DeepCutAuto
import Derived.Deep.CutRange
namespace Go.Proofs.Ytaldlkokbpidiaa
open Go.RowKit
theorem dgl_dg {q a : Int} (ha : inE q a = true) (i : Nat) : (dgl q a).getD i 0 = dg q a i := by rw [dgl, if_pos ha]; rfl
theorem dgl_add {q a b : Int} (ha : inE q a = true) (hb : inE q b = true) (hs : inE q (addF q a b) = true) (i : Nat) (hi : i < plN q) :
    0 ≤ (dgl q a).getD i 0 ∧ (dgl q a).getD i 0 < pr q ∧ 0 ≤ (dgl q b).getD i 0 ∧ (dgl q b).getD i 0 < pr q ∧ ((dgl q a).getD i 0 + (dgl q b).getD i 0) % pr q = (dgl q (addF q a b)).getD i 0 := by
  obtain ⟨h, a0, a1⟩ := inE_yes ha
  obtain ⟨_, b0, b1⟩ := inE_yes hb
  have hk := plN_bd q h
  rw [dgl_dg ha, dgl_dg hb, dgl_dg hs]
  refine ⟨(dg_bd q a i h).1, (dg_bd q a i h).2, (dg_bd q b i h).1, (dg_bd q b i h).2, ?_⟩
  obtain ⟨e0, e1, e2, e3⟩ := add_dg q a b h a0 a1 b0 b1
  have hc : i = 0 ∨ i = 1 ∨ i = 2 ∨ i = 3 := by omega
  rcases hc with rfl | rfl | rfl | rfl
  · exact e0
  · rwa [if_neg (by omega)] at e1
  · rwa [if_neg (by omega)] at e2
  · rwa [if_neg (by omega)] at e3
theorem digits_cells (q a : Int) (w : World) (ha : inE q a = true) : Calls Try.prog 15 #[.int .i64 q, .int .i64 a] w fun e w' => ∃ g cap, e = .returned (.tuple #[.slice (some ⟨g, 0, none⟩) (plN q) cap, .bool true]) ∧ g < w'.heap.size ∧ (∀ i, i < plN q → w'.cell? ⟨g, i, none⟩ = some (.int .i64 ((dgl q a).getD i 0))) ∧ Below w.heap.size w w' := by
  have hk := plN_bd q (inE_yes ha).1
  refine (impl_DigitsOf_any q a w).mono ?_
  rintro e w' ⟨v, rfl, hr, hb⟩
  obtain ⟨g, cap, rfl, _, hg⟩ := hr.form (by rw [dgl_len ha]; omega)
  refine ⟨g, cap, by rw [ha, dgl_len ha], hg, fun i hi => ?_, hb⟩
  exact hr.cell i (by rw [dgl_len ha]; exact hi)
set_option maxRecDepth 100000 in
set_option maxHeartbeats 20000000 in
theorem walk_FnFieldsAdd (a0 : Option Addr) (n0 c0 : Nat) (z0 : List Int) (a1 : Option Addr) (n1 c1 : Nat) (z1 : List Int) (w : World) (h0 : IsRow .u8 w a0 n0 c0 z0) (h1 : IsRow .u8 w a1 n1 c1 z1) :
    Calls Try.prog 3 #[.slice a0 n0 c0, .slice a1 n1 c1] w fun e w' => e = .returned (.bool true) ∧ Below w.heap.size w w' := by
  by_cases hbg : n0 + n1 ≤ 1048576
  · have HBG := Lib.hid (big_no a0 a1 n0 c0 n1 c1 w hbg)
    have H0 := Lib.hid (h0.bys (by omega))
    have H1 := Lib.hid (h1.bys (by omega))
    have HPI := Lib.hid impl_PlusOf_any
    have HPS := Lib.hid spec_PlusOf_any
    have HLI := Lib.hid impl_LessOf_any
    have HLS := Lib.hid spec_LessOf_any
    have HTI := Lib.hid impl_TimesOf_any
    have HTS := Lib.hid spec_TimesOf_any
    have HBB : Hid (Below w.heap.size w w) := Lib.hid (Below.refl _ _)
    clear h0 h1
    go_enter Try.func3, Try.ntmps3
    go_wp2_with fail
    refine HBG.out.mono ?_
    rintro e _ ⟨rfl, rfl⟩
    go_wp2_with fail
    refine (drawPlus_any a0 n0 c0 _ H0.out).mono ?_
    rintro e w1 ⟨q, a, b, rfl, hb1⟩
    have HB1 := Lib.hid hb1; clear hb1
    go_wp2_with fail
    refine (HPI.out q a b _).mono ?_
    rintro e w2 ⟨rfl, hb2⟩
    have HB2 : Hid (Below w.heap.size w w2) := Lib.hid (HB1.out.trans (hb2.mono HB1.out.size)); clear hb2 HB1
    go_wp2_with fail
    refine (HPS.out q a b _).mono ?_
    rintro e w3 ⟨rfl, hb3⟩
    have HB3 : Hid (Below w.heap.size w w3) := Lib.hid (HB2.out.trans (hb3.mono HB2.out.size)); clear hb3 HB2
    go_wp2_with fail
    refine (HLI.out q a b _).mono ?_
    rintro e w4 ⟨rfl, hb4⟩
    have HB4 : Hid (Below w.heap.size w w4) := Lib.hid (HB3.out.trans (hb4.mono HB3.out.size)); clear hb4 HB3
    go_wp2_with fail
    refine (HLS.out q a b _).mono ?_
    rintro e w5 ⟨rfl, hb5⟩
    have HB5 : Hid (Below w.heap.size w w5) := Lib.hid (HB4.out.trans (hb5.mono HB4.out.size)); clear hb5 HB4
    go_wp2_with fail
    refine (HTI.out q a b _).mono ?_
    rintro e w6 ⟨rfl, hb6⟩
    have HB6 : Hid (Below w.heap.size w w6) := Lib.hid (HB5.out.trans (hb6.mono HB5.out.size)); clear hb6 HB5
    go_wp2_with fail
    refine (HTS.out q a b _).mono ?_
    rintro e w7 ⟨rfl, hb7⟩
    have HB7 : Hid (Below w.heap.size w w7) := Lib.hid (HB6.out.trans (hb7.mono HB6.out.size)); clear hb7 HB6
    go_upto_if 145 with (fail)
    go_cut [4, 8, 9, 10, 11, 12, 13, 14, 15, 16, 17, 18, 19, 20, 21, 22, 23, 24, 25, 26, 27, 28, 29, 30] (fun s4 _s8 _s9 _s10 _s11 _s12 _s13 _s14 _s15 _s16 _s17 _s18 _s19 _s20 _s21 _s22 _s23 _s24 _s25 _s26 _s27 _s28 _s29 _s30 wx => s4 = .bool false ∧ Below w.heap.size w wx)
    case first =>
      as_aux_lemma =>
      cases hin : in2 q a b with
      | false =>
        go_wp2_with fail
        go_meet
        exact ⟨rfl, HB7.out⟩
      | true =>
      obtain ⟨ha, hb⟩ := in2_yes hin
      obtain ⟨hsz, a0', a1'⟩ := inE_yes ha
      obtain ⟨_, b0', b1'⟩ := inE_yes hb
      have hq := isSz_le q hsz
      obtain ⟨c, hc⟩ : ∃ c, (3 * (n0 : Int) + 5 * (n1 : Int) + a) % q = c := ⟨_, rfl⟩
      have hcE : El q c := by rw [← hc]; exact ⟨Int.emod_nonneg _ (by omega), Int.emod_lt_of_pos _ (by omega)⟩
      have hkb := plN_bd q hsz
      have hpb := pr_bd q hsz
      have hsE : inE q (addF q a b) = true := by have := El.add hsz ⟨a0', a1'⟩ ⟨b0', b1'⟩; simp [inE, hsz, this.1, this.2]
      have HDA := Lib.hid (fun w => digits_cells q a w ha)
      have HDB := Lib.hid (fun w => digits_cells q b w hb)
      have HDS := Lib.hid (fun w => digits_cells q _ w hsE)
      have HD := Lib.hid (fun i (hi : i < plN q) => dgl_add ha hb hsE i hi)
      have HPR := Lib.hid (fun w => impl_PrimeOf_yes q w hsz)
      rw [show pl q = ((plN q : Nat) : Int) from rfl] at HPR
      obtain ⟨s, d, p, bc, sc, mbc, mpc, cs, ca, cb, es, ed, ep, hs, k1, k2, k3, k4, k5, k6, k7, k8, k9, k10, k11, k12, k13, k14, k15, hz⟩ := fields_ask hsz ⟨a0', a1'⟩ ⟨b0', b1'⟩ hcE
      rw [rs2_yes hin, rs2_yes hin, rs2_yes hin, es, ed, ep]
      rw [es] at HD HDS
      generalize dgl q a = la at *
      generalize dgl q b = lb at *
      generalize dgl q s = ls at *
      generalize plN q = k at *
      generalize pr q = pp at *
      have K1 := Lib.hid k1; clear k1
      have K2 := Lib.hid k2; clear k2
      have K3 := Lib.hid k3; clear k3
      have K4 := Lib.hid k4; clear k4
      have K5 := Lib.hid k5; clear k5
      have K6 := Lib.hid k6; clear k6
      have K7 := Lib.hid k7; clear k7
      have K8 := Lib.hid k8; clear k8
      have K9 := Lib.hid k9; clear k9
      have K10 := Lib.hid k10; clear k10
      have K11 := Lib.hid k11; clear k11
      have K12 := Lib.hid k12; clear k12
      have K13 := Lib.hid k13; clear k13
      have K14 := Lib.hid k14; clear k14
      have K15 := Lib.hid k15; clear k15
      have HS := Lib.hid hs
      have HZ := Lib.hid hz
      have hw1 : IntKind.i64.wrap (3 * (n0 : Int)) = 3 * (n0 : Int) := IntWalk.i64_in _ (by omega)
      have hw2 : IntKind.i64.wrap (5 * (n1 : Int)) = 5 * (n1 : Int) := IntWalk.i64_in _ (by omega)
      have hw3 : IntKind.i64.wrap (3 * (n0 : Int) + 5 * (n1 : Int)) = 3 * (n0 : Int) + 5 * (n1 : Int) := IntWalk.i64_in _ (by omega)
      have hw4 : IntKind.i64.wrap (3 * (n0 : Int) + 5 * (n1 : Int) + a) = 3 * (n0 : Int) + 5 * (n1 : Int) + a := IntWalk.i64_in _ (by omega)
      have hq0 : ¬ q = 0 := by omega
      clear hs hz hcE es ed ep hin ha hb hsE hsz
      go_wp2_with fail
      refine (K1.out _).mono ?_
      rintro e w8 ⟨rfl, hb8⟩
      have HB8 : Hid (Below w.heap.size w w8) := Lib.hid (HB7.out.trans (hb8.mono HB7.out.size)); clear hb8 HB7
      go_wp2_with fail
      refine (K2.out _).mono ?_
      rintro e w9 ⟨rfl, hb9⟩
      have HB9 : Hid (Below w.heap.size w w9) := Lib.hid (HB8.out.trans (hb9.mono HB8.out.size)); clear hb9 HB8
      go_wp2_with fail
      refine (K3.out _).mono ?_
      rintro e w10 ⟨rfl, hb10⟩
      have HB10 : Hid (Below w.heap.size w w10) := Lib.hid (HB9.out.trans (hb10.mono HB9.out.size)); clear hb10 HB9
      go_wp2_with fail
      refine (K4.out _).mono ?_
      rintro e w11 ⟨rfl, hb11⟩
      have HB11 : Hid (Below w.heap.size w w11) := Lib.hid (HB10.out.trans (hb11.mono HB10.out.size)); clear hb11 HB10
      go_wp2_with fail
      refine (K5.out _).mono ?_
      rintro e w12 ⟨rfl, hb12⟩
      have HB12 : Hid (Below w.heap.size w w12) := Lib.hid (HB11.out.trans (hb12.mono HB11.out.size)); clear hb12 HB11
      go_wp2_with fail
      refine (K6.out _).mono ?_
      rintro e w13 ⟨rfl, hb13⟩
      have HB13 : Hid (Below w.heap.size w w13) := Lib.hid (HB12.out.trans (hb13.mono HB12.out.size)); clear hb13 HB12
      go_wp2_with fail
      refine (K7.out _).mono ?_
      rintro e w14 ⟨rfl, hb14⟩
      have HB14 : Hid (Below w.heap.size w w14) := Lib.hid (HB13.out.trans (hb14.mono HB13.out.size)); clear hb14 HB13
      go_wp2_with fail
      refine (K8.out _).mono ?_
      rintro e w15 ⟨rfl, hb15⟩
      have HB15 : Hid (Below w.heap.size w w15) := Lib.hid (HB14.out.trans (hb15.mono HB14.out.size)); clear hb15 HB14
      go_wp2_with fail
      refine (K9.out _).mono ?_
      rintro e w16 ⟨rfl, hb16⟩
      have HB16 : Hid (Below w.heap.size w w16) := Lib.hid (HB15.out.trans (hb16.mono HB15.out.size)); clear hb16 HB15
      go_wp2_with fail
      refine (K10.out _).mono ?_
      rintro e w17 ⟨rfl, hb17⟩
      have HB17 : Hid (Below w.heap.size w w17) := Lib.hid (HB16.out.trans (hb17.mono HB16.out.size)); clear hb17 HB16
      go_wp2_with fail
      refine (K11.out _).mono ?_
      rintro e w18 ⟨rfl, hb18⟩
      have HB18 : Hid (Below w.heap.size w w18) := Lib.hid (HB17.out.trans (hb18.mono HB17.out.size)); clear hb18 HB17
      go_wp2_with fail
      refine (K12.out _).mono ?_
      rintro e w19 ⟨rfl, hb19⟩
      have HB19 : Hid (Below w.heap.size w w19) := Lib.hid (HB18.out.trans (hb19.mono HB18.out.size)); clear hb19 HB18
      go_wp2_with fail
      refine (K13.out _).mono ?_
      rintro e w20 ⟨rfl, hb20⟩
      have HB20 : Hid (Below w.heap.size w w20) := Lib.hid (HB19.out.trans (hb20.mono HB19.out.size)); clear hb20 HB19
      go_wp2_with fail
      refine (K14.out _).mono ?_
      rintro e w21 ⟨rfl, hb21⟩
      have HB21 : Hid (Below w.heap.size w w21) := Lib.hid (HB20.out.trans (hb21.mono HB20.out.size)); clear hb21 HB20
      go_wp2_with fail
      refine (K15.out _).mono ?_
      rintro e w22 ⟨rfl, hb22⟩
      have HB22 : Hid (Below w.heap.size w w22) := Lib.hid (HB21.out.trans (hb22.mono HB21.out.size)); clear hb22 HB21
      go_upto_region 16 with (fail)
      go_cut [4, 246] (fun s4 s wx => s4 = .bool false ∧ s = .bool false ∧ Below w.heap.size w wx)
      case first =>
        as_aux_lemma =>
        have hz := HZ.out
        by_cases za : a = 0
        · have e1 : (a == 0) = true := by simpa using za
          rw [e1, Bool.true_or] at hz
          clear za
          go_wp2_with fail
          go_meet
          exact ⟨rfl, by first | rfl | simp [hz, e1], HB22.out⟩
        · have e1 : (a == 0) = false := by simpa using za
          by_cases zb : b = 0
          · have e2 : (b == 0) = true := by simpa using zb
            rw [e1, e2, Bool.false_or] at hz
            clear za zb
            go_wp2_with fail
            go_meet
            exact ⟨rfl, by first | rfl | simp [hz, e1, e2], HB22.out⟩
          · have e2 : (b == 0) = false := by simpa using zb
            rw [e1, e2, Bool.false_or] at hz
            clear za zb
            go_wp2_with fail
            go_meet
            exact ⟨rfl, by first | rfl | simp [hz, e1, e2], HB22.out⟩
      case rest =>
      as_aux_lemma =>
      obtain ⟨rfl, rfl, hbc⟩ := hcut
      have HBC := Lib.hid hbc; clear hbc
      go_wp2_with fail
      refine (HPR.out _).mono ?_
      rintro e w23 ⟨rfl, hb23⟩
      have HB23 : Hid (Below w.heap.size w w23) := Lib.hid (HBC.out.trans (hb23.mono HBC.out.size)); clear hb23 HBC
      go_wp2_with fail
      refine (HDA.out _).mono ?_
      rintro e w24 ⟨g1, cp1, rfl, hg1, hc1, hb24⟩
      have HC1 := Lib.hid hc1
      have HB24 : Hid (Below w.heap.size w w24) := Lib.hid (HB23.out.trans (hb24.mono HB23.out.size)); clear hb24 HB23 hc1
      go_wp2_with fail
      refine (HDB.out _).mono ?_
      rintro e w25 ⟨g2, cp2, rfl, hg2, hc2, hb25⟩
      have HC2 := Lib.hid hc2
      have HX25 := Lib.hid hb25
      have HB25 : Hid (Below w.heap.size w w25) := Lib.hid (HB24.out.trans (hb25.mono HB24.out.size)); clear hb25 hc2
      go_wp2_with fail
      refine (HDS.out _).mono ?_
      rintro e w26 ⟨g3, cp3, rfl, hg3, hc3, hb26⟩
      have HC3 := Lib.hid hc3
      have HX26 := Lib.hid hb26
      have HB26 : Hid (Below w.heap.size w w26) := Lib.hid (HB25.out.trans (hb26.mono HB25.out.size)); clear hb26 hc3
      have hz25 := HX25.out.size
      have hz26 := HX26.out.size
      have HCE : Hid (∀ wr, Below w26.heap.size w26 wr → ∀ i, i < k → wr.cell? ⟨g1, i, none⟩ = some (.int .i64 (la.getD i 0)) ∧ wr.cell? ⟨g2, i, none⟩ = some (.int .i64 (lb.getD i 0)) ∧ wr.cell? ⟨g3, i, none⟩ = some (.int .i64 (ls.getD i 0))) := Lib.hid fun wr hb i hi =>
        ⟨(hb.cell (p := ⟨g1, i, none⟩) (show g1 < _ by omega)).trans ((HX26.out.cell (p := ⟨g1, i, none⟩) (show g1 < _ by omega)).trans ((HX25.out.cell (p := ⟨g1, i, none⟩) hg1).trans (HC1.out i hi))),
         (hb.cell (p := ⟨g2, i, none⟩) (show g2 < _ by omega)).trans ((HX26.out.cell (p := ⟨g2, i, none⟩) hg2).trans (HC2.out i hi)),
         (hb.cell (p := ⟨g3, i, none⟩) hg3).trans (HC3.out i hi)⟩
      go_wp2_with fail
      go_loopw [4, 293] (fun v4 vi wr => v4 = .bool false ∧ ∃ i : Nat, i ≤ k ∧ vi = .int .i64 i ∧ Below w26.heap.size w26 wr) (fun _ vi _ => k - (intOf vi).toNat)
      case atStart => exact ⟨rfl, 0, Nat.zero_le _, rfl, by (repeat' (first | (with_reducible assumption) | (with_reducible exact Below.refl _ _) | (with_reducible refine below_drewN ?_ _) | (with_reducible refine Below.drew ?_) | (with_reducible refine Below.alloc ?_ ?_ _) | (with_reducible refine Below.setCell ?_ ?_ _) | (with_reducible refine Below.trans ?_ (Below.mono (by assumption) ?_)) | (with_reducible exact Nat.le_refl _) | (with_reducible assumption) | omega | (simp; omega) | (simp; done)))⟩
      case round =>
        obtain ⟨rfl, i, hi, rfl, hbw⟩ := hrel
        by_cases hlt : i < k
        · obtain ⟨e1, e2, e3⟩ := HCE.out _ hbw i hlt
          obtain ⟨x0, x1, y0, y1, hxy⟩ := HD.out i hlt
          have hzz := hbw.size
          have HBW := Lib.hid hbw; clear hbw
          generalize la.getD i 0 = x at *
          generalize lb.getD i 0 = y at *
          generalize ls.getD i 0 = z at *
          have hw5 : IntKind.i64.wrap (x + y) = x + y := IntWalk.i64_in _ (by omega)
          have hxy0 : 0 ≤ x + y := by omega
          have hp0 : ¬ pp = 0 := by omega
          have l1 : g1 < wr.heap.size := by omega
          have l2 : g2 < wr.heap.size := by omega
          have l3 : g3 < wr.heap.size := by omega
          go_wp2_with fail
          go_region
          go_wp2_with fail
          go_roundw
          case rel => exact ⟨rfl, i + 1, by omega, by go_num, by have hb := HBW.out; (repeat' (first | (with_reducible assumption) | (with_reducible exact Below.refl _ _) | (with_reducible refine below_drewN ?_ _) | (with_reducible refine Below.drew ?_) | (with_reducible refine Below.alloc ?_ ?_ _) | (with_reducible refine Below.setCell ?_ ?_ _) | (with_reducible refine Below.trans ?_ (Below.mono (by assumption) ?_)) | (with_reducible exact Nat.le_refl _) | (with_reducible assumption) | omega | (simp; omega) | (simp; done)))⟩
          case measure => simp [intOf]; omega
        · obtain rfl : k = i := by omega
          have HBW := Lib.hid hbw; clear hbw
          go_wp2_with fail
          go_meet
          exact ⟨rfl, HB26.out.trans (HBW.out.mono HB26.out.size)⟩
    case rest =>
      as_aux_lemma =>
      obtain ⟨rfl, hbc⟩ := hcut
      have HBC := Lib.hid hbc; clear hbc
      go_wp2_with fail
      refine (drawInverse_any a1 n1 c1 _ (H1.out.below HBC.out)).mono ?_
      rintro e u1 ⟨r, x, rfl, hb1⟩
      have HU1 : Hid (Below w.heap.size w u1) := Lib.hid (HBC.out.trans (hb1.mono HBC.out.size)); clear hb1
      obtain ⟨iv, o1, o2, L, hl, i1, i2, i3, i4, i5⟩ := ask_Inverse r x
      have HL := Lib.hid hl; clear hl
      have I1 := Lib.hid i1; clear i1
      have I2 := Lib.hid i2; clear i2
      have I3 := Lib.hid i3; clear i3
      have I4 := Lib.hid i4; clear i4
      have I5 := Lib.hid i5; clear i5
      go_wp2_with fail
      refine (I1.out _).mono ?_
      rintro e u2 ⟨rfl, hb2⟩
      have HU2 : Hid (Below w.heap.size w u2) := Lib.hid (HU1.out.trans (hb2.mono HU1.out.size)); clear hb2
      go_wp2_with fail
      refine (I2.out _).mono ?_
      rintro e u3 ⟨rfl, hb3⟩
      have HU3 : Hid (Below w.heap.size w u3) := Lib.hid (HU2.out.trans (hb3.mono HU2.out.size)); clear hb3
      go_wp2_with fail
      refine (I3.out _).mono ?_
      rintro e u4 ⟨v1, rfl, hr, hb4⟩
      have SA := Lib.hid hr.sl; clear hr
      have HU4 : Hid (Below w.heap.size w u4) := Lib.hid (HU3.out.trans (hb4.mono HU3.out.size)); clear hb4
      go_wp2_with fail
      refine (I4.out _).mono ?_
      rintro e u5 ⟨v2, rfl, hr, hb5⟩
      have SB := Lib.hid hr.sl; clear hr
      have SC := Lib.hid (SA.out.below hb5 (Nat.le_refl _)); clear SA
      have HU5 : Hid (Below w.heap.size w u5) := Lib.hid (HU4.out.trans (hb5.mono HU4.out.size)); clear hb5
      go_wp2_with fail
      refine (pSame_same v1 v2 L _ SC.out SB.out HL.out).mono ?_
      rintro e u6 ⟨rfl, hb6⟩
      have HU6 : Hid (Below w.heap.size w u6) := Lib.hid (HU5.out.trans (hb6.mono HU5.out.size)); clear hb6
      rcases I5.out with ⟨rfl, rfl⟩ | ⟨rfl, rfl, rfl⟩ | ⟨rfl, rfl, hx, ht⟩
      · clear I5
        go_wp2_with fail
        refine (drawPrime_any a1 n1 c1 _ (H1.out.below HU6.out)).mono ?_
        rintro e u7 ⟨s, rfl, hb7⟩
        have HU7 : Hid (Below w.heap.size w u7) := Lib.hid (HU6.out.trans (hb7.mono HU6.out.size)); clear hb7
        obtain ⟨p, k, o, M, hm, j1, j2, j3, j4, j5, j6, j7⟩ := ask_Prime s
        have HM := Lib.hid hm; clear hm
        have J1 := Lib.hid j1; clear j1
        have J2 := Lib.hid j2; clear j2
        have J3 := Lib.hid j3; clear j3
        have J4 := Lib.hid j4; clear j4
        have J5 := Lib.hid j5; clear j5
        have J6 := Lib.hid j6; clear j6
        have J7 := Lib.hid j7; clear j7
        go_wp2_with fail
        refine (J1.out _).mono ?_
        rintro e u8 ⟨rfl, hb8⟩
        have HU8 : Hid (Below w.heap.size w u8) := Lib.hid (HU7.out.trans (hb8.mono HU7.out.size)); clear hb8
        go_wp2_with fail
        refine (J2.out _).mono ?_
        rintro e u9 ⟨rfl, hb9⟩
        have HU9 : Hid (Below w.heap.size w u9) := Lib.hid (HU8.out.trans (hb9.mono HU8.out.size)); clear hb9
        go_wp2_with fail
        refine (J3.out _).mono ?_
        rintro e u10 ⟨v3, rfl, hr, hb10⟩
        have SD := Lib.hid hr.sl; clear hr
        have HU10 : Hid (Below w.heap.size w u10) := Lib.hid (HU9.out.trans (hb10.mono HU9.out.size)); clear hb10
        go_wp2_with fail
        refine (J4.out _).mono ?_
        rintro e u11 ⟨v4, rfl, hr, hb11⟩
        have SE := Lib.hid hr.sl; clear hr
        have SF := Lib.hid (SD.out.below hb11 (Nat.le_refl _)); clear SD
        have HU11 : Hid (Below w.heap.size w u11) := Lib.hid (HU10.out.trans (hb11.mono HU10.out.size)); clear hb11
        go_wp2_with fail
        refine (pSame_same v3 v4 M _ SF.out SE.out HM.out).mono ?_
        rintro e u12 ⟨rfl, hb12⟩
        have SG := Lib.hid (SF.out.below hb12 (Nat.le_refl _)); clear SF SE
        have HU12 : Hid (Below w.heap.size w u12) := Lib.hid (HU11.out.trans (hb12.mono HU11.out.size)); clear hb12
        go_wp2_with fail
        refine (J5.out _).mono ?_
        rintro e u13 ⟨rfl, hb13⟩
        have SH := Lib.hid (SG.out.below hb13 (Nat.le_refl _)); clear SG
        have HU13 : Hid (Below w.heap.size w u13) := Lib.hid (HU12.out.trans (hb13.mono HU12.out.size)); clear hb13
        go_wp2_with fail
        refine (J6.out _).mono ?_
        rintro e u14 ⟨rfl, hb14⟩
        have SI := Lib.hid (SH.out.below hb14 (Nat.le_refl _)); clear SH
        have HU14 : Hid (Below w.heap.size w u14) := Lib.hid (HU13.out.trans (hb14.mono HU13.out.size)); clear hb14
        cases o with
        | false =>
          clear J7
          go_wp2
          go_ret
          exact ⟨rfl, HU14.out⟩
        | true =>
          by_cases hk : 1 < k
          · obtain ⟨h0, A, P, X, a1, a2, a3, a4⟩ := J7.out rfl hk
            have HA0 := Lib.hid a1; clear a1
            have HP0 := Lib.hid a2; clear a2
            have HAN := Lib.hid a3; clear a3
            have HF := Lib.hid a4; clear a4 J7
            obtain ⟨b1, off, cp, rfl, hbl, hcl⟩ := SI.out.open rfl h0
            have HC := Lib.hid hcl; clear hcl SI
            have hM := HM.out
            clear HM
            generalize M.length = nM at *
            go_wp2_with fail
            go_loopw [52, 53, 450] (fun va vp vi wr => ∃ i : Nat, i ≤ nM ∧ vi = .int .i64 i ∧ va = .int .i64 (A i) ∧ vp = .int .i64 (P i) ∧ Below u14.heap.size u14 wr) (fun _ _ vi _ => nM - (intOf vi).toNat)
            case atStart => exact ⟨0, Nat.zero_le _, rfl, by rw [HA0.out], by rw [HP0.out], Below.refl _ _⟩
            case round =>
              obtain ⟨i, hi, rfl, rfl, rfl, hbw⟩ := hrel
              by_cases hlt : i < nM
              · have e1 := (hbw.cell (p := ⟨b1, off + i, none⟩) hbl).trans (HC.out i hlt)
                obtain ⟨t1, t2, t3⟩ := HF.out i hlt
                have T1 := Lib.hid t1
                have T2 := Lib.hid t2
                have T3 := Lib.hid t3
                have hzz := hbw.size
                have HBW := Lib.hid hbw
                have l1 : b1 < wr.heap.size := by omega
                clear t1 t2 t3 hbw
                generalize M.getD i 0 = c at *
                go_wp2_with fail
                refine (T1.out _).mono ?_
                rintro e y1 ⟨rfl, hy1⟩
                have HY1 : Hid (Below u14.heap.size u14 y1) := Lib.hid (HBW.out.trans (hy1.mono HBW.out.size)); clear hy1
                go_wp2_with fail
                refine (T2.out _).mono ?_
                rintro e y2 ⟨rfl, hy2⟩
                have HY2 : Hid (Below u14.heap.size u14 y2) := Lib.hid (HY1.out.trans (hy2.mono HY1.out.size)); clear hy2
                go_wp2_with fail
                refine (T3.out _).mono ?_
                rintro e y3 ⟨rfl, hy3⟩
                have HY3 : Hid (Below u14.heap.size u14 y3) := Lib.hid (HY2.out.trans (hy3.mono HY2.out.size)); clear hy3
                go_wp2_with fail
                go_roundw
                case rel => exact ⟨i + 1, by omega, by go_num, rfl, rfl, HY3.out⟩
                case measure => simp [intOf]; omega
              · obtain rfl : nM = i := by omega
                have HBW := Lib.hid hbw; clear hbw
                rw [HAN.out]
                go_wp2
                go_ret
                exact ⟨rfl, HU14.out.trans (HBW.out.mono HU14.out.size)⟩
          · clear J7
            go_wp2
            go_ret
            exact ⟨rfl, HU14.out⟩
      · clear I5
        go_wp2_with fail
        refine (drawPrime_any a1 n1 c1 _ (H1.out.below HU6.out)).mono ?_
        rintro e u7 ⟨s, rfl, hb7⟩
        have HU7 : Hid (Below w.heap.size w u7) := Lib.hid (HU6.out.trans (hb7.mono HU6.out.size)); clear hb7
        obtain ⟨p, k, o, M, hm, j1, j2, j3, j4, j5, j6, j7⟩ := ask_Prime s
        have HM := Lib.hid hm; clear hm
        have J1 := Lib.hid j1; clear j1
        have J2 := Lib.hid j2; clear j2
        have J3 := Lib.hid j3; clear j3
        have J4 := Lib.hid j4; clear j4
        have J5 := Lib.hid j5; clear j5
        have J6 := Lib.hid j6; clear j6
        have J7 := Lib.hid j7; clear j7
        go_wp2_with fail
        refine (J1.out _).mono ?_
        rintro e u8 ⟨rfl, hb8⟩
        have HU8 : Hid (Below w.heap.size w u8) := Lib.hid (HU7.out.trans (hb8.mono HU7.out.size)); clear hb8
        go_wp2_with fail
        refine (J2.out _).mono ?_
        rintro e u9 ⟨rfl, hb9⟩
        have HU9 : Hid (Below w.heap.size w u9) := Lib.hid (HU8.out.trans (hb9.mono HU8.out.size)); clear hb9
        go_wp2_with fail
        refine (J3.out _).mono ?_
        rintro e u10 ⟨v3, rfl, hr, hb10⟩
        have SD := Lib.hid hr.sl; clear hr
        have HU10 : Hid (Below w.heap.size w u10) := Lib.hid (HU9.out.trans (hb10.mono HU9.out.size)); clear hb10
        go_wp2_with fail
        refine (J4.out _).mono ?_
        rintro e u11 ⟨v4, rfl, hr, hb11⟩
        have SE := Lib.hid hr.sl; clear hr
        have SF := Lib.hid (SD.out.below hb11 (Nat.le_refl _)); clear SD
        have HU11 : Hid (Below w.heap.size w u11) := Lib.hid (HU10.out.trans (hb11.mono HU10.out.size)); clear hb11
        go_wp2_with fail
        refine (pSame_same v3 v4 M _ SF.out SE.out HM.out).mono ?_
        rintro e u12 ⟨rfl, hb12⟩
        have SG := Lib.hid (SF.out.below hb12 (Nat.le_refl _)); clear SF SE
        have HU12 : Hid (Below w.heap.size w u12) := Lib.hid (HU11.out.trans (hb12.mono HU11.out.size)); clear hb12
        go_wp2_with fail
        refine (J5.out _).mono ?_
        rintro e u13 ⟨rfl, hb13⟩
        have SH := Lib.hid (SG.out.below hb13 (Nat.le_refl _)); clear SG
        have HU13 : Hid (Below w.heap.size w u13) := Lib.hid (HU12.out.trans (hb13.mono HU12.out.size)); clear hb13
        go_wp2_with fail
        refine (J6.out _).mono ?_
        rintro e u14 ⟨rfl, hb14⟩
        have SI := Lib.hid (SH.out.below hb14 (Nat.le_refl _)); clear SH
        have HU14 : Hid (Below w.heap.size w u14) := Lib.hid (HU13.out.trans (hb14.mono HU13.out.size)); clear hb14
        cases o with
        | false =>
          clear J7
          go_wp2
          go_ret
          exact ⟨rfl, HU14.out⟩
        | true =>
          by_cases hk : 1 < k
          · obtain ⟨h0, A, P, X, a1, a2, a3, a4⟩ := J7.out rfl hk
            have HA0 := Lib.hid a1; clear a1
            have HP0 := Lib.hid a2; clear a2
            have HAN := Lib.hid a3; clear a3
            have HF := Lib.hid a4; clear a4 J7
            obtain ⟨b1, off, cp, rfl, hbl, hcl⟩ := SI.out.open rfl h0
            have HC := Lib.hid hcl; clear hcl SI
            have hM := HM.out
            clear HM
            generalize M.length = nM at *
            go_wp2_with fail
            go_loopw [52, 53, 450] (fun va vp vi wr => ∃ i : Nat, i ≤ nM ∧ vi = .int .i64 i ∧ va = .int .i64 (A i) ∧ vp = .int .i64 (P i) ∧ Below u14.heap.size u14 wr) (fun _ _ vi _ => nM - (intOf vi).toNat)
            case atStart => exact ⟨0, Nat.zero_le _, rfl, by rw [HA0.out], by rw [HP0.out], Below.refl _ _⟩
            case round =>
              obtain ⟨i, hi, rfl, rfl, rfl, hbw⟩ := hrel
              by_cases hlt : i < nM
              · have e1 := (hbw.cell (p := ⟨b1, off + i, none⟩) hbl).trans (HC.out i hlt)
                obtain ⟨t1, t2, t3⟩ := HF.out i hlt
                have T1 := Lib.hid t1
                have T2 := Lib.hid t2
                have T3 := Lib.hid t3
                have hzz := hbw.size
                have HBW := Lib.hid hbw
                have l1 : b1 < wr.heap.size := by omega
                clear t1 t2 t3 hbw
                generalize M.getD i 0 = c at *
                go_wp2_with fail
                refine (T1.out _).mono ?_
                rintro e y1 ⟨rfl, hy1⟩
                have HY1 : Hid (Below u14.heap.size u14 y1) := Lib.hid (HBW.out.trans (hy1.mono HBW.out.size)); clear hy1
                go_wp2_with fail
                refine (T2.out _).mono ?_
                rintro e y2 ⟨rfl, hy2⟩
                have HY2 : Hid (Below u14.heap.size u14 y2) := Lib.hid (HY1.out.trans (hy2.mono HY1.out.size)); clear hy2
                go_wp2_with fail
                refine (T3.out _).mono ?_
                rintro e y3 ⟨rfl, hy3⟩
                have HY3 : Hid (Below u14.heap.size u14 y3) := Lib.hid (HY2.out.trans (hy3.mono HY2.out.size)); clear hy3
                go_wp2_with fail
                go_roundw
                case rel => exact ⟨i + 1, by omega, by go_num, rfl, rfl, HY3.out⟩
                case measure => simp [intOf]; omega
              · obtain rfl : nM = i := by omega
                have HBW := Lib.hid hbw; clear hbw
                rw [HAN.out]
                go_wp2
                go_ret
                exact ⟨rfl, HU14.out.trans (HBW.out.mono HU14.out.size)⟩
          · clear J7
            go_wp2
            go_ret
            exact ⟨rfl, HU14.out⟩
      · have HT := Lib.hid ht; clear ht I5
        go_wp2_with fail
        refine (HT.out _).mono ?_
        rintro e u7 ⟨rfl, hb7⟩
        have HU7 : Hid (Below w.heap.size w u7) := Lib.hid (HU6.out.trans (hb7.mono HU6.out.size)); clear hb7
        go_wp2_with fail
        refine (drawPrime_any a1 n1 c1 _ (H1.out.below HU7.out)).mono ?_
        rintro e u8 ⟨s, rfl, hb8⟩
        have HU8 : Hid (Below w.heap.size w u8) := Lib.hid (HU7.out.trans (hb8.mono HU7.out.size)); clear hb8
        obtain ⟨p, k, o, M, hm, j1, j2, j3, j4, j5, j6, j7⟩ := ask_Prime s
        have HM := Lib.hid hm; clear hm
        have J1 := Lib.hid j1; clear j1
        have J2 := Lib.hid j2; clear j2
        have J3 := Lib.hid j3; clear j3
        have J4 := Lib.hid j4; clear j4
        have J5 := Lib.hid j5; clear j5
        have J6 := Lib.hid j6; clear j6
        have J7 := Lib.hid j7; clear j7
        go_wp2_with fail
        refine (J1.out _).mono ?_
        rintro e u9 ⟨rfl, hb9⟩
        have HU9 : Hid (Below w.heap.size w u9) := Lib.hid (HU8.out.trans (hb9.mono HU8.out.size)); clear hb9
        go_wp2_with fail
        refine (J2.out _).mono ?_
        rintro e u10 ⟨rfl, hb10⟩
        have HU10 : Hid (Below w.heap.size w u10) := Lib.hid (HU9.out.trans (hb10.mono HU9.out.size)); clear hb10
        go_wp2_with fail
        refine (J3.out _).mono ?_
        rintro e u11 ⟨v3, rfl, hr, hb11⟩
        have SD := Lib.hid hr.sl; clear hr
        have HU11 : Hid (Below w.heap.size w u11) := Lib.hid (HU10.out.trans (hb11.mono HU10.out.size)); clear hb11
        go_wp2_with fail
        refine (J4.out _).mono ?_
        rintro e u12 ⟨v4, rfl, hr, hb12⟩
        have SE := Lib.hid hr.sl; clear hr
        have SF := Lib.hid (SD.out.below hb12 (Nat.le_refl _)); clear SD
        have HU12 : Hid (Below w.heap.size w u12) := Lib.hid (HU11.out.trans (hb12.mono HU11.out.size)); clear hb12
        go_wp2_with fail
        refine (pSame_same v3 v4 M _ SF.out SE.out HM.out).mono ?_
        rintro e u13 ⟨rfl, hb13⟩
        have SG := Lib.hid (SF.out.below hb13 (Nat.le_refl _)); clear SF SE
        have HU13 : Hid (Below w.heap.size w u13) := Lib.hid (HU12.out.trans (hb13.mono HU12.out.size)); clear hb13
        go_wp2_with fail
        refine (J5.out _).mono ?_
        rintro e u14 ⟨rfl, hb14⟩
        have SH := Lib.hid (SG.out.below hb14 (Nat.le_refl _)); clear SG
        have HU14 : Hid (Below w.heap.size w u14) := Lib.hid (HU13.out.trans (hb14.mono HU13.out.size)); clear hb14
        go_wp2_with fail
        refine (J6.out _).mono ?_
        rintro e u15 ⟨rfl, hb15⟩
        have SI := Lib.hid (SH.out.below hb15 (Nat.le_refl _)); clear SH
        have HU15 : Hid (Below w.heap.size w u15) := Lib.hid (HU14.out.trans (hb15.mono HU14.out.size)); clear hb15
        cases o with
        | false =>
          clear J7
          go_wp2
          go_ret
          exact ⟨rfl, HU15.out⟩
        | true =>
          by_cases hk : 1 < k
          · obtain ⟨h0, A, P, X, a1, a2, a3, a4⟩ := J7.out rfl hk
            have HA0 := Lib.hid a1; clear a1
            have HP0 := Lib.hid a2; clear a2
            have HAN := Lib.hid a3; clear a3
            have HF := Lib.hid a4; clear a4 J7
            obtain ⟨b1, off, cp, rfl, hbl, hcl⟩ := SI.out.open rfl h0
            have HC := Lib.hid hcl; clear hcl SI
            have hM := HM.out
            clear HM
            generalize M.length = nM at *
            go_wp2_with fail
            go_loopw [52, 53, 450] (fun va vp vi wr => ∃ i : Nat, i ≤ nM ∧ vi = .int .i64 i ∧ va = .int .i64 (A i) ∧ vp = .int .i64 (P i) ∧ Below u15.heap.size u15 wr) (fun _ _ vi _ => nM - (intOf vi).toNat)
            case atStart => exact ⟨0, Nat.zero_le _, rfl, by rw [HA0.out], by rw [HP0.out], Below.refl _ _⟩
            case round =>
              obtain ⟨i, hi, rfl, rfl, rfl, hbw⟩ := hrel
              by_cases hlt : i < nM
              · have e1 := (hbw.cell (p := ⟨b1, off + i, none⟩) hbl).trans (HC.out i hlt)
                obtain ⟨t1, t2, t3⟩ := HF.out i hlt
                have T1 := Lib.hid t1
                have T2 := Lib.hid t2
                have T3 := Lib.hid t3
                have hzz := hbw.size
                have HBW := Lib.hid hbw
                have l1 : b1 < wr.heap.size := by omega
                clear t1 t2 t3 hbw
                generalize M.getD i 0 = c at *
                go_wp2_with fail
                refine (T1.out _).mono ?_
                rintro e y1 ⟨rfl, hy1⟩
                have HY1 : Hid (Below u15.heap.size u15 y1) := Lib.hid (HBW.out.trans (hy1.mono HBW.out.size)); clear hy1
                go_wp2_with fail
                refine (T2.out _).mono ?_
                rintro e y2 ⟨rfl, hy2⟩
                have HY2 : Hid (Below u15.heap.size u15 y2) := Lib.hid (HY1.out.trans (hy2.mono HY1.out.size)); clear hy2
                go_wp2_with fail
                refine (T3.out _).mono ?_
                rintro e y3 ⟨rfl, hy3⟩
                have HY3 : Hid (Below u15.heap.size u15 y3) := Lib.hid (HY2.out.trans (hy3.mono HY2.out.size)); clear hy3
                go_wp2_with fail
                go_roundw
                case rel => exact ⟨i + 1, by omega, by go_num, rfl, rfl, HY3.out⟩
                case measure => simp [intOf]; omega
              · obtain rfl : nM = i := by omega
                have HBW := Lib.hid hbw; clear hbw
                rw [HAN.out]
                go_wp2
                go_ret
                exact ⟨rfl, HU15.out.trans (HBW.out.mono HU15.out.size)⟩
          · clear J7
            go_wp2
            go_ret
            exact ⟨rfl, HU15.out⟩
  · have HBG := Lib.hid (big_yes' a0 a1 n0 c0 n1 c1 w hbg)
    clear h0 h1 hbg
    go_enter Try.func3, Try.ntmps3
    go_wp2_with fail
    refine HBG.out.mono ?_
    rintro e _ ⟨rfl, rfl⟩
    go_wp2
    go_ret
    exact ⟨rfl, Below.refl _ _⟩
end Go.Proofs.Ytaldlkokbpidiaa
