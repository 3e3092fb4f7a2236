/- spec.fdPlus and spec.fdLess by contracts. -/
import Derived.Test.YthklnfanbegecacD
namespace Go.Proofs.Ythklnfanbegecac
open Go.RowKit

set_option maxHeartbeats 400000 in
/-- spec.fdPlus. -/
theorem fdPlus_any (q a b : Int) (w : World) (h : isSz q = true) (a0 : 0 ≤ a) (a1 : a < q) (b0 : 0 ≤ b) (b1 : b < q) :
    Calls Try.prog 48 #[.int .i64 q, .int .i64 a, .int .i64 b] w fun e w' => e = .returned (.int .i64 (addF q a b)) ∧ Below w.heap.size w w' := by
  have hp := pr_bd q h
  have hk := plN_bd q h
  have HM := Lib.hid (plus_model q a b h a0 a1 b0 b1)
  have HP := Lib.hid (fdPrime_any q)
  have HDa := Lib.hid (fun w => fdDigits_any q a w h a0 a1)
  have HDb := Lib.hid (fun w => fdDigits_any q b w h b0 b1)
  have HF := Lib.hid (fdFrom_any q)
  have hx := digs_in (plN q) (pr q) a (by omega)
  have hy := digs_in (plN q) (pr q) b (by omega)
  have hxl := digs_len (plN q) (pr q) a
  have hyl := digs_len (plN q) (pr q) b
  generalize digs (plN q) (pr q) a = x at *
  generalize digs (plN q) (pr q) b = y at *
  have H := Lib.hid h; clear h
  have HX := Lib.hid hx; clear hx
  have HY := Lib.hid hy; clear hy
  have HXL := Lib.hid hxl; clear hxl
  have HYL := Lib.hid hyl; clear hyl
  unfold pl at HP
  generalize hpe : pr q = p at *
  have HPE := Lib.hid hpe; clear hpe
  generalize hke : plN q = k at *
  have HKE := Lib.hid hke; clear hke
  obtain ⟨hp2, hp13⟩ := hp
  obtain ⟨hk1, hk4⟩ := hk
  go_enter Try.func48, Try.ntmps48
  go_wp2_with (go_at_call 69; refine (HP.out _ H.out).mono ?_; rintro e w1 ⟨rfl, rfl⟩)
  refine (HDa.out _).mono ?_
  rintro e w1 ⟨v1, rfl, hr1, hb1⟩
  obtain ⟨g1, c1, rfl, hg1, hg1'⟩ := hr1.form (by rw [HXL.out]; omega)
  rw [HXL.out] at hr1 ⊢
  have HR1 := Lib.hid hr1; clear hr1
  have HB1 := Lib.hid hb1; clear hb1
  have hz1 := HB1.out.size
  go_wp2_with fail
  refine (HDb.out _).mono ?_
  rintro e w2 ⟨v2, rfl, hr2, hb2⟩
  obtain ⟨g2, c2, rfl, hg2, hg2'⟩ := hr2.form (by rw [HYL.out]; omega)
  rw [HYL.out] at hr2 ⊢
  have HR2 := Lib.hid hr2; clear hr2
  have HB2 := Lib.hid hb2; clear hb2
  have hz2 := HB2.out.size
  go_wp2_with fail
  go_loopw [25] (fun vi wr => ∃ i : Nat, i ≤ k ∧ vi = .int .i64 i ∧ Row wr w.heap.size (.slice (some ⟨g1, 0, none⟩) k c1) (plusTo p y x i) ∧ Row wr w.heap.size (.slice (some ⟨g2, 0, none⟩) k c2) y ∧ Below w.heap.size w wr) (fun vi _ => k - (intOf vi).toNat)
  case atStart => exact ⟨0, Nat.zero_le _, rfl, HR1.out.below HB2.out, HR2.out.mono hz1, HB1.out.trans (HB2.out.mono hz1)⟩
  case round =>
    obtain ⟨i, hi, rfl, hr1, hr2, hb⟩ := hrel
    have HLi := Lib.hid (plusTo_in p y x i (by omega) HX.out)
    have HR1' := Lib.hid hr1; clear hr1
    have HR2' := Lib.hid hr2; clear hr2
    have HB' := Lib.hid hb; clear hb
    have hz' := HB'.out.size
    by_cases hlt : i < k
    · have hd1 := HLi.out.1.getD (by omega) i
      have hd2 := HY.out.getD (by omega) i
      have hc1 := Row.cell (l := plusTo p y x i) (cap := c1) (by rw [HLi.out.2, HXL.out]; exact HR1'.out) i (by rw [HLi.out.2, HXL.out]; exact hlt)
      have hc2 := Row.cell (l := y) (cap := c2) (by rw [HYL.out]; exact HR2'.out) i (by rw [HYL.out]; exact hlt)
      have hf1 := HR1'.out.frozen (by rw [HLi.out.2, HXL.out]) i
      have HS := Lib.hid (plusTo_succ p y x i)
      generalize hu1 : (plusTo p y x i).getD i 0 = u1 at *
      have HU1 := Lib.hid hu1; clear hu1
      generalize hu2 : y.getD i 0 = u2 at *
      have HU2 := Lib.hid hu2; clear hu2
      obtain ⟨d1, d2⟩ := hd1
      obtain ⟨d3, d4⟩ := hd2
      have hmod0 : 0 ≤ (u1 + u2) % p := Int.emod_nonneg _ (by omega)
      have hmod1 : (u1 + u2) % p < 13 := Int.lt_of_lt_of_le (Int.emod_lt_of_pos _ (by omega)) hp13
      go_wp2_with fail
      go_region
      go_wp2
      go_roundw
      case rel =>
        refine ⟨i + 1, by omega, by go_num, ?_, ?_, ?_⟩
        · rw [HS.out]
          exact (HR1'.out.store (by rw [HLi.out.2, HXL.out]) i _)
        · exact HR2'.out.other (by simp [Value.ownBlock]; omega) _
        · exact (HB'.out.setCell (by omega) _).drew
      case measure => simp [intOf]; omega
    · obtain rfl : i = k := by omega
      have hlen : (plusTo p y x i).length = i := by rw [HLi.out.2, HXL.out]
      have hcc := HF.out (plusTo p y x i) g1 c1 wr H.out HLi.out.1 (by rw [hlen]; omega) (fun j hj => Row.cell (cap := c1) (by rw [hlen]; exact HR1'.out) j hj)
      rw [hlen] at hcc
      have HCC := Lib.hid hcc; clear hcc hlen
      go_wp2_with fail
      refine (HCC.out).mono ?_
      rintro e w3 ⟨rfl, rfl⟩
      go_wp2
      go_ret
      exact ⟨ret_int HM.out, HB'.out⟩
end Go.Proofs.Ythklnfanbegecac
