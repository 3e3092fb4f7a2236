/- spec.fdModulus and spec.fdTimes by contracts. -/
import Derived.Test.YthklnfanbegecacE
namespace Go.Proofs.Ythklnfanbegecac
open Go.RowKit

set_option maxHeartbeats 1000000 in
/-- spec.fdModulus. -/
theorem fdModulus_any (q : Int) (w : World) (h : isSz q = true) :
    Calls Try.prog 73 #[.int .i64 q] w fun e w' => ∃ v, e = .returned v ∧ Row w' w.heap.size v (mdl q) ∧ Below w.heap.size w w' := by
  have hq := sz_split q h
  clear h
  rcases hq with rfl | rfl | rfl | rfl | rfl | rfl | rfl | rfl | rfl | rfl
  all_goals
    go_enter Try.func73, Try.ntmps73
    go_wp2
    go_ret
    exact ⟨_, rfl, World.ownsRow_lit _ _ _ (Nat.le_refl _) (by decide) rfl, by (repeat' (first | (with_reducible assumption) | (with_reducible exact Below.refl _ _) | (with_reducible refine below_drewN ?_ _) | (with_reducible refine Below.drew ?_) | (with_reducible refine Below.alloc ?_ ?_ _) | (with_reducible refine Below.setCell ?_ ?_ _) | (with_reducible refine Below.trans ?_ (Below.mono (by assumption) ?_)) | (with_reducible exact Nat.le_refl _) | (with_reducible assumption) | omega | (simp; omega) | (simp; done)))⟩

/-- The four rows of a product. -/
structure T4 (w0 wr : World) (g1 c1 g2 c2 g3 c3 g4 c4 k n : Nat) (x y m L : List Int) : Prop where
  rx : Row wr w0.heap.size (.slice (some ⟨g1, 0, none⟩) k c1) x
  ry : Row wr w0.heap.size (.slice (some ⟨g2, 0, none⟩) k c2) y
  rm : Row wr w0.heap.size (.slice (some ⟨g3, 0, none⟩) k c3) m
  rL : Row wr w0.heap.size (.slice (some ⟨g4, 0, none⟩) n c4) L
  bel : Below w0.heap.size w0 wr
  ne1 : g1 < g4
  ne2 : g2 < g4
  ne3 : g3 < g4
  ge4 : w0.heap.size ≤ g4
theorem T4.store {w0 wr : World} {g1 c1 g2 c2 g3 c3 g4 c4 k n : Nat} {x y m L : List Int} (h : T4 w0 wr g1 c1 g2 c2 g3 c3 g4 c4 k n x y m L) (hn : n = L.length) (i : Nat) (u : Int) :
    T4 w0 (wr.setCell ⟨g4, i, none⟩ (.int .i64 u)) g1 c1 g2 c2 g3 c3 g4 c4 k n x y m (L.set i u) := by
  obtain ⟨h1, h2, h3, h4, h5, h6, h7, h8, h9⟩ := h
  exact ⟨h1.other (by simp [Value.ownBlock]; omega) _, h2.other (by simp [Value.ownBlock]; omega) _, h3.other (by simp [Value.ownBlock]; omega) _, h4.store hn i u, h5.setCell h9 _, h6, h7, h8, h9⟩
theorem T4.drew {w0 wr : World} {g1 c1 g2 c2 g3 c3 g4 c4 k n : Nat} {x y m L : List Int} (h : T4 w0 wr g1 c1 g2 c2 g3 c3 g4 c4 k n x y m L) : T4 w0 wr.drew g1 c1 g2 c2 g3 c3 g4 c4 k n x y m L :=
  ⟨h.1, h.2, h.3, h.4, h.5.drew, h.6, h.7, h.8, h.9⟩

set_option maxRecDepth 100000 in
set_option maxHeartbeats 1000000 in
/-- spec.fdTimes at a prime. -/
theorem fdTimes_one (q a b : Int) (w : World) (h : isSz q = true) (a0 : 0 ≤ a) (a1 : a < q) (b0 : 0 ≤ b) (b1 : b < q) (hk : plN q = 1) :
    Calls Try.prog 50 #[.int .i64 q, .int .i64 a, .int .i64 b] w fun e w' => e = .returned (.int .i64 (mulF q a b)) ∧ Below w.heap.size w w' := by
  have hp := pr_bd q h
  have hq := isSz_le q h
  have hm := times_model q a b h a0 a1 b0 b1
  simp only [timesM, hk, if_true] at hm
  have HM := Lib.hid hm; clear hm
  have hc := fdPrime_any q w h
  simp only [pl, hk] at hc
  have HP := Lib.hid hc; clear hc
  have m0 : 0 ≤ a * b := Int.mul_nonneg a0 b0
  have m1 : a * b ≤ 16 * 16 := Int.mul_le_mul (by omega) (by omega) b0 (by omega)
  clear hk
  generalize pr q = p at *
  obtain ⟨hp2, hp13⟩ := hp
  have r0 : 0 ≤ a * b % p := Int.emod_nonneg _ (by omega)
  have r1 : a * b % p < 13 := Int.lt_of_lt_of_le (Int.emod_lt_of_pos _ (by omega)) hp13
  go_enter Try.func50, Try.ntmps50
  go_wp2_with (go_at_call 69; refine (HP.out).mono ?_; rintro e w1 ⟨rfl, rfl⟩)
  go_ret
  exact ⟨ret_int HM.out, Below.refl _ _⟩

set_option maxRecDepth 100000 in
set_option maxHeartbeats 2000000 in
/-- spec.fdTimes at the others. -/
theorem fdTimes_many (q a b : Int) (w : World) (h : isSz q = true) (a0 : 0 ≤ a) (a1 : a < q) (b0 : 0 ≤ b) (b1 : b < q) (hk : plN q ≠ 1) :
    Calls Try.prog 50 #[.int .i64 q, .int .i64 a, .int .i64 b] w fun e w' => e = .returned (.int .i64 (mulF q a b)) ∧ Below w.heap.size w w' := by
  obtain ⟨i0, hi, hz0, hz1, hz2⟩ := info_parts Try.infoI
  have hp := pr_bd q h
  have hk' := plN_bd q h
  have hm := times_model q a b h a0 a1 b0 b1
  simp only [timesM, if_neg hk] at hm
  have HM := Lib.hid hm; clear hm
  have HP := Lib.hid (fdPrime_any q)
  have HDa := Lib.hid (fun w => fdDigits_any q a w h a0 a1)
  have HDb := Lib.hid (fun w => fdDigits_any q b w h b0 b1)
  have HMo := Lib.hid (fun w => fdModulus_any q w h)
  have HF := Lib.hid (fdFrom_any q)
  have hx := digs_in (plN q) (pr q) a (by omega)
  have hy := digs_in (plN q) (pr q) b (by omega)
  have hxl := digs_len (plN q) (pr q) a
  have hyl := digs_len (plN q) (pr q) b
  obtain ⟨hml, hmi⟩ := mdl_len q h
  generalize digs (plN q) (pr q) a = x at *
  generalize digs (plN q) (pr q) b = y at *
  generalize mdl q = m at *
  have H := Lib.hid h; clear h
  have HX := Lib.hid hx; clear hx
  have HY := Lib.hid hy; clear hy
  have HMI := Lib.hid hmi; clear hmi
  have HXL := Lib.hid hxl; clear hxl
  have HYL := Lib.hid hyl; clear hyl
  have HML := Lib.hid hml; clear hml
  unfold pl at HP
  generalize hpe : pr q = p at *
  have HPE := Lib.hid hpe; clear hpe
  generalize hke : plN q = k at *
  have HKE := Lib.hid hke; clear hke
  obtain ⟨hp2, hp13⟩ := hp
  obtain ⟨hk1, hk4⟩ := hk'
  have hk2 : 2 ≤ k := by omega
  have hkn : ((k : Int) == 1) = false := by simp; omega
  clear hk hk1
  go_enter Try.func50, Try.ntmps50
  go_wp2_with (go_at_call 69; refine (HP.out _ H.out).mono ?_; rintro e w1 ⟨rfl, rfl⟩)
  refine (HDa.out _).mono ?_
  rintro e w1 ⟨v1, rfl, hr1, hb1⟩
  obtain ⟨g1, c1, rfl, hg1, hg1'⟩ := hr1.form (by rw [HXL.out]; omega)
  rw [HXL.out] at hr1 ⊢
  have HR1 := Lib.hid hr1; clear hr1
  have HB1 := Lib.hid hb1; clear hb1
  have hz1' := HB1.out.size
  go_wp2_with fail
  refine (HDb.out _).mono ?_
  rintro e w2 ⟨v2, rfl, hr2, hb2⟩
  obtain ⟨g2, c2, rfl, hg2, hg2'⟩ := hr2.form (by rw [HYL.out]; omega)
  rw [HYL.out] at hr2 ⊢
  have HR2 := Lib.hid hr2; clear hr2
  have HB2 := Lib.hid hb2; clear hb2
  have hz2' := HB2.out.size
  go_wp2_with fail
  refine (HMo.out _).mono ?_
  rintro e w3 ⟨v3, rfl, hr3, hb3⟩
  obtain ⟨g3, c3, rfl, hg3, hg3'⟩ := hr3.form (by rw [HML.out]; omega)
  rw [HML.out] at hr3 ⊢
  have HR3 := Lib.hid hr3; clear hr3
  have HB3 := Lib.hid hb3; clear hb3
  have hz3' := HB3.out.size
  go_wp2_with (at_make; refine wpList_make_full _ rfl _ _ 22 rfl w.heap.size 3 i0 (.int .i64 0) 1 Try.underlying22 hi hz0 hz1 .i64 .i64 _ _ (2 * k - 1) rfl rfl ?c1 ?c2 ?c3 ?c4 ?c5 ?_)
  case c1 => omega
  case c2 => omega
  case c3 => rw [hz2]; omega
  case c4 => unfold maxLen; omega
  case c5 => omega
  intro w4 hown hgrow
  have hr4 : Row w4 w.heap.size (.slice (some ⟨w3.heap.size, 0, none⟩) (2 * k - 1) (2 * k - 1)) (List.replicate (2 * k - 1) 0) := by
    unfold Row
    rw [List.length_replicate, List.map_replicate]
    rw [toList_madeCells_one] at hown
    exact hown
  have ht : T4 w w4 g1 c1 g2 c2 g3 c3 w3.heap.size (2 * k - 1) k (2 * k - 1) x y m (outTo p y x (List.replicate (2 * k - 1) 0) 0) :=
    ⟨((HR1.out.below HB2.out).below HB3.out).grown hgrow, (HR2.out.mono hz1').below HB3.out |>.grown hgrow, (HR3.out.mono (by omega)).grown hgrow, hr4,
      (HB1.out.trans ((HB2.out.mono hz1').trans (HB3.out.mono (by omega)))).grown hgrow (by omega) (fun k hk => by cases hk), by omega, by omega, by omega, by omega⟩
  have HT := Lib.hid ht
  clear ht hr4 hown hgrow
  generalize w3.heap.size = g4 at *
  generalize hc4 : 2 * k - 1 = n4 at *
  have HC4 := Lib.hid hc4; clear hc4
  have HRI : Hid (AllIn p (List.replicate n4 0)) := Lib.hid (fun d hd => by have := List.eq_of_mem_replicate hd; omega)
  go_wp2_with fail
  go_loopw [46] (fun vi wr => ∃ i : Nat, i ≤ k ∧ vi = .int .i64 i ∧ T4 w wr g1 c1 g2 c2 g3 c3 g4 n4 k n4 x y m (outTo p y x (List.replicate n4 0) i)) (fun vi _ => k - (intOf vi).toNat)
  case atStart => exact ⟨0, Nat.zero_le _, rfl, HT.out⟩
  case round =>
    obtain ⟨i, hi, rfl, ht⟩ := hrel
    have HT1 := Lib.hid ht; clear ht
    obtain ⟨wo, rfl⟩ : ∃ wo : World, wo = wr := ⟨_, rfl⟩
    by_cases hlt : i < k
    · have hc1 := Row.cell (l := x) (cap := c1) (by rw [HXL.out]; exact HT1.out.rx) i (by rw [HXL.out]; exact hlt)
      have hd1 := HX.out.getD (by omega) i
      generalize hu1 : x.getD i 0 = u1 at *
      have HU1 := Lib.hid hu1; clear hu1
      obtain ⟨d1, d2⟩ := hd1
      go_wp2_with fail
      go_loopw [53] (fun vj wr => ∃ j : Nat, j ≤ k ∧ vj = .int .i64 j ∧ T4 w wr g1 c1 g2 c2 g3 c3 g4 n4 k n4 x y m (inTo p y u1 i (outTo p y x (List.replicate n4 0) i) j)) (fun vj _ => k - (intOf vj).toNat)
      case atStart => exact ⟨0, Nat.zero_le _, rfl, HT1.out⟩
      case round =>
        obtain ⟨j, hj, rfl, ht⟩ := hrel
        have HT2 := Lib.hid ht; clear ht
        have HLi := Lib.hid (inTo_in p y u1 i _ j (by omega) (outTo_in p y x (List.replicate n4 0) i (by omega) (HRI.out)).1)
        have hlen : (inTo p y u1 i (outTo p y x (List.replicate n4 0) i) j).length = n4 := by rw [HLi.out.2, (outTo_in p y x (List.replicate n4 0) i (by omega) (HRI.out)).2, List.length_replicate]
        have HLEN := Lib.hid hlen; clear hlen
        by_cases hjt : j < k
        · have hij : i + j < n4 := by rw [← HC4.out]; omega
          have hc2 := Row.cell (l := y) (cap := c2) (by rw [HYL.out]; exact HT2.out.ry) j (by rw [HYL.out]; exact hjt)
          have hd2 := HY.out.getD (by omega) j
          have hc4 := Row.cell (l := inTo p y u1 i (outTo p y x (List.replicate n4 0) i) j) (cap := n4) (by rw [HLEN.out]; exact HT2.out.rL) (i + j) (by rw [HLEN.out]; exact hij)
          have hf4 := HT2.out.rL.frozen HLEN.out.symm (i + j)
          have hd4 := HLi.out.1.getD (by omega) (i + j)
          have HS := Lib.hid (inTo_succ p y u1 i (outTo p y x (List.replicate n4 0) i) j)
          generalize hu2 : y.getD j 0 = u2 at *
          have HU2 := Lib.hid hu2; clear hu2
          generalize hu4 : (inTo p y u1 i (outTo p y x (List.replicate n4 0) i) j).getD (i + j) 0 = u4 at *
          have HU4 := Lib.hid hu4; clear hu4
          obtain ⟨d3, d4⟩ := hd2
          obtain ⟨d5, d6⟩ := hd4
          have m0 : 0 ≤ u1 * u2 := Int.mul_nonneg d1 d3
          have m1 : u1 * u2 ≤ 13 * 13 := Int.mul_le_mul (by omega) (by omega) d3 (by omega)
          have hmod0 : 0 ≤ (u4 + u1 * u2) % p := Int.emod_nonneg _ (by omega)
          have hmod1 : (u4 + u1 * u2) % p < 13 := Int.lt_of_lt_of_le (Int.emod_lt_of_pos _ (by omega)) hp13
          clear hc1
          go_wp2
          go_roundw
          case rel =>
            refine ⟨j + 1, by omega, by go_num, ?_⟩
            rw [HS.out]
            exact HT2.out.store HLEN.out.symm (i + j) _
          case measure => simp [intOf]; omega
        · obtain rfl : k = j := by omega
          go_wp2
          go_roundw
          case rel =>
            refine ⟨i + 1, by omega, by go_num, ?_⟩
            rw [outTo_succ, HU1.out, HYL.out]
            exact HT2.out
          case measure => simp [intOf]; omega
    · obtain rfl : k = i := by omega
      have hLo := outTo_in p y x (List.replicate n4 0) k (by omega) HRI.out
      rw [List.length_replicate] at hLo
      generalize outTo p y x (List.replicate n4 0) k = L0 at *
      have HLO := Lib.hid hLo; clear hLo
      clear hlt
      go_wp2_with fail
      go_loopw [17] (fun vt wr => ∃ t : Nat, k ≤ t + 1 ∧ t + 2 ≤ 2 * k ∧ vt = .int .i64 t ∧ T4 w wr g1 c1 g2 c2 g3 c3 g4 n4 k n4 x y m (routTo p k m L0 (2 * k - 2 - t))) (fun vt _ => (intOf vt).toNat)
      case atStart => exact ⟨2 * k - 2, by omega, by omega, by go_num, by rw [Nat.sub_self]; exact HT1.out⟩
      case round =>
        obtain ⟨t, ht1, ht2, rfl, ht⟩ := hrel
        have HT3 := Lib.hid ht; clear ht
        have HL3 := Lib.hid (routTo_in p k m L0 (2 * k - 2 - t) (by omega) HLO.out.1)
        obtain ⟨wo2, rfl⟩ : ∃ wo2 : World, wo2 = wr := ⟨_, rfl⟩
        by_cases htk : k ≤ t
        · go_wp2_with fail
          go_loopw [87] (fun vj wr => ∃ j : Nat, j ≤ k ∧ vj = .int .i64 j ∧ T4 w wr g1 c1 g2 c2 g3 c3 g4 n4 k n4 x y m (rinTo p k m t (routTo p k m L0 (2 * k - 2 - t)) j)) (fun vj _ => k - (intOf vj).toNat)
          case atStart => exact ⟨0, Nat.zero_le _, rfl, HT3.out⟩
          case round =>
            obtain ⟨j, hj, rfl, ht⟩ := hrel
            have HT4 := Lib.hid ht; clear ht
            have HL4 := Lib.hid (rinTo_in p k m t _ j (by omega) HL3.out.1)
            have hlen : (rinTo p k m t (routTo p k m L0 (2 * k - 2 - t)) j).length = n4 := by rw [HL4.out.2, HL3.out.2, HLO.out.2]
            have HLEN := Lib.hid hlen; clear hlen
            by_cases hjt : j < k
            · have hij : t - k + j < n4 := by rw [← HC4.out]; omega
              have htn : t < n4 := by rw [← HC4.out]; omega
              have hc3 := Row.cell (l := m) (cap := c3) (by rw [HML.out]; exact HT4.out.rm) j (by rw [HML.out]; exact hjt)
              have hd3 := HMI.out.getD (by omega) j
              have hc4 := Row.cell (l := rinTo p k m t (routTo p k m L0 (2 * k - 2 - t)) j) (cap := n4) (by rw [HLEN.out]; exact HT4.out.rL) (t - k + j) (by rw [HLEN.out]; exact hij)
              have hc5 := Row.cell (l := rinTo p k m t (routTo p k m L0 (2 * k - 2 - t)) j) (cap := n4) (by rw [HLEN.out]; exact HT4.out.rL) t (by rw [HLEN.out]; exact htn)
              have hf4 := HT4.out.rL.frozen HLEN.out.symm (t - k + j)
              have hd4 := HL4.out.1.getD (by omega) (t - k + j)
              have hd5 := HL4.out.1.getD (by omega) t
              have HS := Lib.hid (rinTo_succ p k m t (routTo p k m L0 (2 * k - 2 - t)) j)
              generalize hu3 : m.getD j 0 = u3 at *
              have HU3 := Lib.hid hu3; clear hu3
              generalize hu4 : (rinTo p k m t (routTo p k m L0 (2 * k - 2 - t)) j).getD (t - k + j) 0 = u4 at *
              have HU4 := Lib.hid hu4; clear hu4
              generalize hu5 : (rinTo p k m t (routTo p k m L0 (2 * k - 2 - t)) j).getD t 0 = u5 at *
              have HU5 := Lib.hid hu5; clear hu5
              obtain ⟨d3, d4⟩ := hd3
              obtain ⟨d5, d6⟩ := hd4
              obtain ⟨d7, d8⟩ := hd5
              have m0 : 0 ≤ (p - u3) * u5 := Int.mul_nonneg (by omega) d7
              have m1 : (p - u3) * u5 ≤ 13 * 13 := Int.mul_le_mul (by omega) (by omega) d7 (by omega)
              have hmod0 : 0 ≤ (u4 + (p - u3) * u5) % p := Int.emod_nonneg _ (by omega)
              have hmod1 : (u4 + (p - u3) * u5) % p < 13 := Int.lt_of_lt_of_le (Int.emod_lt_of_pos _ (by omega)) hp13
              go_wp2_with fail
              go_region
              go_wp2
              go_roundw
              case rel =>
                refine ⟨j + 1, by omega, by go_num, ?_⟩
                rw [HS.out]
                exact (HT4.out.store HLEN.out.symm (t - k + j) _).drew
              case measure => simp [intOf]; omega
            · obtain rfl : k = j := by omega
              go_wp2
              go_roundw
              case rel =>
                refine ⟨t - 1, by omega, by omega, by go_num, ?_⟩
                rw [show 2 * k - 2 - (t - 1) = 2 * k - 2 - t + 1 from by omega, routTo_succ, HML.out, show 2 * k - 2 - (2 * k - 2 - t) = t from by omega]
                exact HT4.out
              case measure => simp [intOf]; omega
        · have htk' : 2 * k - 2 - t = k - 1 := by omega
          rw [htk'] at HT3 HL3
          have hcc := HF.out ((routTo p k m L0 (k - 1)).take k) g4 n4 wo2 H.out (fun d hd => HL3.out.1 d (List.mem_of_mem_take hd)) (by rw [List.length_take]; omega)
            (fun j hj => by
              have hlen : (routTo p k m L0 (k - 1)).length = n4 := by rw [HL3.out.2, HLO.out.2]
              have hj' : j < k := by rw [List.length_take] at hj; omega
              rw [Row.cell (l := routTo p k m L0 (k - 1)) (cap := n4) (by rw [hlen]; exact HT3.out.rL) j (by rw [hlen, ← HC4.out]; omega)]
              simp [List.getD, hj'])
          have hlen : ((routTo p k m L0 (k - 1)).take k).length = k := by rw [List.length_take, HL3.out.2, HLO.out.2, ← HC4.out]; omega
          rw [hlen] at hcc
          have HCC := Lib.hid hcc; clear hcc hlen htk'
          have hkn4 : k ≤ n4 := by rw [← HC4.out]; omega
          go_wp2_with fail
          refine (HCC.out).mono ?_
          rintro e w5 ⟨rfl, rfl⟩
          go_wp2
          go_ret
          exact ⟨ret_int HM.out, HT3.out.bel⟩

/-- spec.fdTimes. -/
theorem fdTimes_any (q a b : Int) (w : World) (h : isSz q = true) (a0 : 0 ≤ a) (a1 : a < q) (b0 : 0 ≤ b) (b1 : b < q) :
    Calls Try.prog 50 #[.int .i64 q, .int .i64 a, .int .i64 b] w fun e w' => e = .returned (.int .i64 (mulF q a b)) ∧ Below w.heap.size w w' := by
  by_cases hk : plN q = 1
  · exact fdTimes_one q a b w h a0 a1 b0 b1 hk
  · exact fdTimes_many q a b w h a0 a1 b0 b1 hk
end Go.Proofs.Ythklnfanbegecac
