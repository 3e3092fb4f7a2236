/- impl.TraceOf and NormOf by contracts; the walks of their laws. -/
import Derived.Test.YtapglncgicfjnaaFB
import Derived.Test.YtapglncgicfjnaaKE
namespace Go.Proofs.Ytapglncgicfjnaa
open Go.RowKit
set_option maxHeartbeats 2000000 in
/-- impl.NormOf. -/
theorem impl_NormOf_yes (q a : Int) (w : World) (ha : inE q a = true) :
    Calls Try.prog 49 #[.int .i64 q, .int .i64 a] w fun e w' => e = .returned (.tuple #[.int .i64 (norTo q a (plN q)), .bool true]) ∧ Below w.heap.size w w' := by
  obtain ⟨h, a0, a1⟩ := inE_yes ha
  have hk := plN_bd q h
  have HF := Lib.hid (fun w => elementOf_yes q a w ha)
  have HZ := Lib.hid (fun w => oneE q w h)
  have HE := Lib.hid (fun w => conjugatesE q a w h a0 a1)
  have HA := Lib.hid (fun (n : Nat) w => timesE q (norTo q a n) (fro q a n) w h (norTo_bd q a h a0 a1 n).1 (norTo_bd q a h a0 a1 n).2 (fro_bd q a h a0 a1 n).1 (fro_bd q a h a0 a1 n).2)
  have HN := Lib.hid (fun w => numberE q (norTo q a (plN q)) w h (norTo_bd q a h a0 a1 _).1 (norTo_bd q a h a0 a1 _).2)
  generalize plN q = m at HE HN hk ⊢
  obtain ⟨hk1, hk4⟩ := hk
  clear h ha
  go_enter Try.func49, Try.ntmps49
  go_wp2_with fail
  refine (HF.out _).mono ?_
  rintro e w1 ⟨rfl, hb1⟩
  obtain ⟨hc1, hf1⟩ := bcell hb1; have hz1 := hb1.size; (try simp at hz1); have HB1 := Lib.hid hb1; clear hb1
  go_wp2_with fail
  refine (HZ.out _).mono ?_
  rintro e w2 ⟨rfl, hb2⟩
  obtain ⟨hc2, hf2⟩ := bcell hb2; (try simp only [World.size_drew] at hc2 hf2); have hz2 := hb2.size; (try simp at hz2); have HB2 := Lib.hid hb2; clear hb2
  have l2 : w1.heap.size < w2.heap.size := by omega
  go_wp2_with fail
  refine (HE.out _).mono ?_
  rintro e w3 ⟨g, cp, rfl, hg, hkb, hel, hb3⟩
  simp at hg
  have hts : TS w w3 q (norTo q a 0) (fro q a) m w2.heap.size g := by
    have hb1 := HB1.out
    have hb2 := HB2.out
    have hz3 := hb3.size
    simp at hz3
    refine ⟨?_, hkb, hel, ?_, by omega, by omega⟩
    · rw [hb3.block _ (by simp), heap_alloc_new]; rfl
    · (repeat' (first | (with_reducible assumption) | (with_reducible exact Below.refl _ _) | (with_reducible refine below_drewN ?_ _) | (with_reducible refine Below.drew ?_) | (with_reducible refine Below.alloc ?_ ?_ _) | (with_reducible refine Below.setCell ?_ ?_ _) | (with_reducible refine Below.trans ?_ (Below.mono (by assumption) ?_)) | (with_reducible exact Nat.le_refl _) | (with_reducible assumption) | omega | (simp; omega) | (simp; done)))
  have HTS := Lib.hid hts
  clear hts hkb hel hb3 hc2 hf2 hc1 hf1
  go_wp2_with fail
  go_loopw [25] (fun vi wr => ∃ i : Nat, i ≤ m ∧ vi = .int .i64 i ∧ TS w wr q (norTo q a i) (fro q a) m w2.heap.size g) (fun vi _ => m - (intOf vi).toNat)
  case atStart => exact ⟨0, Nat.zero_le _, rfl, HTS.out⟩
  case round =>
    obtain ⟨i, hi, rfl, ht⟩ := hrel
    have hS : Hid (mulF q (norTo q a i) (fro q a i) = norTo q a (i + 1)) := Lib.hid rfl
    obtain ⟨p0, p1, p2, p3, p4, p5, p6, pf, pl'⟩ := seven ht.hs
    by_cases hlt : i < m
    · obtain ⟨c0, c1, c2, c3, c4, c5, c6⟩ := ht.he i hlt
      have hgl := ht.hk.lt
      have HTT := Lib.hid ht; clear ht
      have HA' := Lib.hid (fun w => HA.out i w)
      generalize norTo q a i = x at *
      generalize fro q a i = y at *
      go_wp2_with fail
      refine (HA'.out _).mono ?_
      rintro e w5 ⟨rfl, hb5⟩
      obtain ⟨hc5, hf5⟩ := bcell hb5; (try simp only [World.size_drew] at hc5 hf5); have hz5 := hb5.size; (try simp at hz5); have HB5 := Lib.hid hb5; clear hb5
      have l50 : w2.heap.size < w5.heap.size := by omega
      rw [hS.out] at *
      go_wp2
      go_roundw
      case rel =>
        refine ⟨i + 1, by omega, by go_num, ?_⟩
        have hb5 := HB5.out
        exact TS.step HTT.out (eblk q y) (by simpa using hb5) _
      case measure => simp [intOf]; omega
    · obtain rfl : m = i := by omega
      have HTT := Lib.hid ht; clear ht
      go_wp2_with fail
      refine (HN.out _).mono ?_
      rintro e w6 ⟨rfl, hb6⟩
      have HB6 := Lib.hid hb6; clear hb6
      go_wp2
      go_ret2
      exact ⟨rfl, HTT.out.bel.trans (HB6.out.mono HTT.out.bel.size)⟩
theorem impl_NormOf_no (q a : Int) (w : World) (ha : inE q a = false) :
    Calls Try.prog 49 #[.int .i64 q, .int .i64 a] w fun e w' => e = .returned (.tuple #[.int .i64 0, .bool false]) ∧ Below w.heap.size w w' := by
  have HC := Lib.hid (fun w => elementOf_no q a w ha)
  clear ha
  go_enter Try.func49, Try.ntmps49
  go_wp2_with fail
  refine (HC.out _).mono ?_
  rintro e w1 ⟨rfl, hb1⟩
  have hz_hb1 := hb1.size; (try simp at hz_hb1)
  have HB1 := Lib.hid hb1; clear hb1
  go_wp2_with fail
  go_ret2
  have hb1 := HB1.out
  exact ⟨rfl, by (repeat' (first | (with_reducible assumption) | (with_reducible exact Below.refl _ _) | (with_reducible refine below_drewN ?_ _) | (with_reducible refine Below.drew ?_) | (with_reducible refine Below.alloc ?_ ?_ _) | (with_reducible refine Below.setCell ?_ ?_ _) | (with_reducible refine Below.trans ?_ (Below.mono (by assumption) ?_)) | (with_reducible exact Nat.le_refl _) | (with_reducible assumption) | omega | (simp; omega) | (simp; done)))⟩
end Go.Proofs.Ytapglncgicfjnaa
