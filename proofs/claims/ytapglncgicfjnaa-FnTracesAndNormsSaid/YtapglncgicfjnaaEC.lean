/- impl.SumOfAll by a contract; the walk of the law of sums of powers. -/
import Derived.Test.YtapglncgicfjnaaKH
import Derived.Test.YtapglncgicfjnaaEB
import Derived.Test.YtapglncgicfjnaaKG
namespace Go.Proofs.Ytapglncgicfjnaa
open Go.RowKit
set_option maxHeartbeats 2000000 in
/-- impl.SumOfAll. -/
theorem impl_SumOfAll_yes (q k : Int) (w : World) (h : isSz q = true) (k0 : 0 ≤ k) (k1 : k ≤ 1000) :
    Calls Try.prog 43 #[.int .i64 q, .int .i64 k] w fun e w' => e = .returned (.tuple #[.int .i64 (sumTo q k.toNat q.toNat), .bool true]) ∧ Below w.heap.size w w' := by
  have hq := isSz_le q h
  have hk3 : ¬ k < 0 := by omega
  have hk4 : ¬ 1000 < k := by omega
  have HF := Lib.hid (fun w => fieldOf_yes q w h)
  have HZ := Lib.hid (fun w => zeroE q w h)
  have HE := Lib.hid (fun w => elements_any q w h)
  have HP := Lib.hid (fun (n : Nat) w (hn : (n : Int) < q) => powerE q (n : Int) k w h (by omega) hn k0 k1)
  have HA := Lib.hid (fun (n : Nat) w (hn : (n : Int) < q) => plusE q (sumTo q k.toNat n) (pw q (n : Int) k.toNat) w h (sumTo_bd q k.toNat h n (by omega)).1 (sumTo_bd q k.toNat h n (by omega)).2 (pw_bd q (n : Int) h (by omega) hn k.toNat).1 (pw_bd q (n : Int) h (by omega) hn k.toNat).2)
  have HN := Lib.hid (fun w => numberE q (sumTo q k.toNat q.toNat) w h (sumTo_bd q k.toNat h q.toNat (by omega)).1 (sumTo_bd q k.toNat h q.toNat (by omega)).2)
  obtain ⟨m, hm⟩ := Int.eq_ofNat_of_zero_le (show 0 ≤ q by omega)
  subst hm
  rw [Int.toNat_natCast] at HE HN ⊢
  generalize hkk : k.toNat = kn at *
  have HKK := Lib.hid hkk; clear hkk
  clear h
  go_enter Try.func43, Try.ntmps43
  go_wp2_with fail
  refine (HF.out _).mono ?_
  rintro e w1 ⟨rfl, hb1⟩
  have hz1 := hb1.size
  have HB1 := Lib.hid hb1; clear hb1
  go_wp2_with fail
  refine (HZ.out _).mono ?_
  rintro e w2 ⟨rfl, hb2⟩
  obtain ⟨hc2, hf2⟩ := bcell hb2; (try simp only [World.size_drew] at hc2 hf2); have hz2 := hb2.size; (try simp at hz2); have HB2 := Lib.hid hb2; clear hb2
  have l2 : w1.heap.size < w2.heap.size := by omega
  go_wp2_with fail
  refine (HE.out _).mono ?_
  rintro e w3 ⟨g, cp, rfl, hg, hkb, hel, hb3⟩
  simp at hg
  have hts : TS w w3 (m : Int) (sumTo (m : Int) kn 0) (fun j => (j : Int)) m w2.heap.size g := by
    have hb1 := HB1.out
    have hb2 := HB2.out
    have hz3 := hb3.size
    simp at hz3
    refine ⟨?_, hkb, hel, ?_, by omega, by omega⟩
    · rw [hb3.block _ (by simp), heap_alloc_new]; rfl
    · (repeat' (first | (with_reducible assumption) | (with_reducible exact Below.refl _ _) | (with_reducible refine below_drewN ?_ _) | (with_reducible refine Below.drew ?_) | (with_reducible refine Below.alloc ?_ ?_ _) | (with_reducible refine Below.setCell ?_ ?_ _) | (with_reducible refine Below.trans ?_ (Below.mono (by assumption) ?_)) | (with_reducible exact Nat.le_refl _) | (with_reducible assumption) | omega | (simp; omega) | (simp; done)))
  have HTS := Lib.hid hts
  clear hts hkb hel hb3 hc2 hf2
  go_wp2_with fail
  go_loopw [31] (fun vi wr => ∃ i : Nat, i ≤ m ∧ vi = .int .i64 i ∧ TS w wr (m : Int) (sumTo (m : Int) kn i) (fun j => (j : Int)) m w2.heap.size g) (fun vi _ => m - (intOf vi).toNat)
  case atStart => exact ⟨0, Nat.zero_le _, rfl, HTS.out⟩
  case round =>
    obtain ⟨i, hi, rfl, ht⟩ := hrel
    have hS : Hid (sumTo (m : Int) kn (i + 1) = addF (m : Int) (sumTo (m : Int) kn i) (pw (m : Int) (i : Int) kn)) := Lib.hid rfl
    obtain ⟨p0, p1, p2, p3, p4, p5, p6, pf, pl'⟩ := seven ht.hs
    by_cases hlt : i < m
    · obtain ⟨c0, c1, c2, c3, c4, c5, c6⟩ := ht.he i hlt
      have HTT := Lib.hid ht; clear ht
      have hnq : (i : Int) < (m : Int) := by omega
      have HP' := Lib.hid (fun w => HP.out i w hnq)
      have HA' := Lib.hid (fun w => HA.out i w hnq)
      generalize sumTo (m : Int) kn i = x at *
      go_wp2_with fail
      go_region_with (first | (go_at_call 75; refine (HP'.out _).mono ?_; rintro e w4 ⟨rfl, hb4⟩; obtain ⟨hc4, hf4⟩ := bcell hb4; (try simp only [World.size_drew] at hc4 hf4); have hz4 := hb4.size; (try simp at hz4); have HB4 := Lib.hid hb4; clear hb4; have l40 : w2.heap.size < w4.heap.size := (by omega)) | (go_at_call 101; refine (HA'.out _).mono ?_; rintro e w5 ⟨rfl, hb5⟩; obtain ⟨hc5, hf5⟩ := bcell hb5; (try simp only [World.size_drew] at hc5 hf5); have hz5 := hb5.size; (try simp at hz5); have HB5 := Lib.hid hb5; clear hb5; have l50 : w2.heap.size < w5.heap.size := (by omega)))
      all_goals
        go_wp2
        go_roundw
        case rel =>
          refine ⟨i + 1, by omega, by go_num, ?_⟩
          rw [hS.out]
          have hb4 := HB4.out
          have hb5 := HB5.out
          first | exact TS.step HTT.out (eblk (m : Int) (i : Int)) (by (repeat' (first | (with_reducible assumption) | (with_reducible exact Below.refl _ _) | (with_reducible refine below_drewN ?_ _) | (with_reducible refine Below.drew ?_) | (with_reducible refine Below.alloc ?_ ?_ _) | (with_reducible refine Below.setCell ?_ ?_ _) | (with_reducible refine Below.trans ?_ (Below.mono (by assumption) ?_)) | (with_reducible exact Nat.le_refl _) | (with_reducible assumption) | omega | (simp; omega) | (simp; done)))) _ | exact TS.drew (TS.step HTT.out (eblk (m : Int) (i : Int)) (by (repeat' (first | (with_reducible assumption) | (with_reducible exact Below.refl _ _) | (with_reducible refine below_drewN ?_ _) | (with_reducible refine Below.drew ?_) | (with_reducible refine Below.alloc ?_ ?_ _) | (with_reducible refine Below.setCell ?_ ?_ _) | (with_reducible refine Below.trans ?_ (Below.mono (by assumption) ?_)) | (with_reducible exact Nat.le_refl _) | (with_reducible assumption) | omega | (simp; omega) | (simp; done)))) _)
        case measure => simp [intOf]; omega
    · obtain rfl : m = i := by omega
      have HTT := Lib.hid ht; clear ht
      go_wp2_with fail
      refine (HN.out _).mono ?_
      rintro e w6 ⟨rfl, hb6⟩
      have HB6 := Lib.hid hb6; clear hb6
      go_wp2
      go_ret2
      exact ⟨rfl, HTT.out.bel.trans (HB6.out.mono HTT.out.bel.size)⟩
theorem impl_SumOfAll_no1 (q k : Int) (w : World) (h : isSz q = false) :
    Calls Try.prog 43 #[.int .i64 q, .int .i64 k] w fun e w' => e = .returned (.tuple #[.int .i64 0, .bool false]) ∧ Below w.heap.size w w' := by
  have HF := Lib.hid (fun w => fieldOf_no q w h)
  clear h
  go_enter Try.func43, Try.ntmps43
  go_wp2_with fail
  refine (HF.out _).mono ?_
  rintro e w1 ⟨rfl, hb1⟩
  have hz_hb1 := hb1.size; (try simp at hz_hb1)
  have HB1 := Lib.hid hb1; clear hb1
  go_wp2
  go_ret2
  have hb1 := HB1.out
  exact ⟨rfl, by (repeat' (first | (with_reducible assumption) | (with_reducible exact Below.refl _ _) | (with_reducible refine below_drewN ?_ _) | (with_reducible refine Below.drew ?_) | (with_reducible refine Below.alloc ?_ ?_ _) | (with_reducible refine Below.setCell ?_ ?_ _) | (with_reducible refine Below.trans ?_ (Below.mono (by assumption) ?_)) | (with_reducible exact Nat.le_refl _) | (with_reducible assumption) | omega | (simp; omega) | (simp; done)))⟩
theorem impl_SumOfAll_no2 (q k : Int) (w : World) (h : isSz q = true) (k0 : ¬ 0 ≤ k) :
    Calls Try.prog 43 #[.int .i64 q, .int .i64 k] w fun e w' => e = .returned (.tuple #[.int .i64 0, .bool false]) ∧ Below w.heap.size w w' := by
  have HF := Lib.hid (fun w => fieldOf_yes q w h)
  have k2 : k < 0 := by omega
  clear h
  go_enter Try.func43, Try.ntmps43
  go_wp2_with fail
  refine (HF.out _).mono ?_
  rintro e w1 ⟨rfl, hb1⟩
  have hz_hb1 := hb1.size; (try simp at hz_hb1)
  have HB1 := Lib.hid hb1; clear hb1
  go_wp2
  go_ret2
  have hb1 := HB1.out
  exact ⟨rfl, by (repeat' (first | (with_reducible assumption) | (with_reducible exact Below.refl _ _) | (with_reducible refine below_drewN ?_ _) | (with_reducible refine Below.drew ?_) | (with_reducible refine Below.alloc ?_ ?_ _) | (with_reducible refine Below.setCell ?_ ?_ _) | (with_reducible refine Below.trans ?_ (Below.mono (by assumption) ?_)) | (with_reducible exact Nat.le_refl _) | (with_reducible assumption) | omega | (simp; omega) | (simp; done)))⟩
theorem impl_SumOfAll_no3 (q k : Int) (w : World) (h : isSz q = true) (k0 : 0 ≤ k) (k1 : ¬ k ≤ 1000) :
    Calls Try.prog 43 #[.int .i64 q, .int .i64 k] w fun e w' => e = .returned (.tuple #[.int .i64 0, .bool false]) ∧ Below w.heap.size w w' := by
  have HF := Lib.hid (fun w => fieldOf_yes q w h)
  have k2 : ¬ k < 0 := by omega
  have k3 : 1000 < k := by omega
  clear h
  go_enter Try.func43, Try.ntmps43
  go_wp2_with fail
  refine (HF.out _).mono ?_
  rintro e w1 ⟨rfl, hb1⟩
  have hz_hb1 := hb1.size; (try simp at hz_hb1)
  have HB1 := Lib.hid hb1; clear hb1
  go_wp2
  go_ret2
  have hb1 := HB1.out
  exact ⟨rfl, by (repeat' (first | (with_reducible assumption) | (with_reducible exact Below.refl _ _) | (with_reducible refine below_drewN ?_ _) | (with_reducible refine Below.drew ?_) | (with_reducible refine Below.alloc ?_ ?_ _) | (with_reducible refine Below.setCell ?_ ?_ _) | (with_reducible refine Below.trans ?_ (Below.mono (by assumption) ?_)) | (with_reducible exact Nat.le_refl _) | (with_reducible assumption) | omega | (simp; omega) | (simp; done)))⟩

end Go.Proofs.Ytapglncgicfjnaa
