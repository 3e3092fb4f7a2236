/- impl.field.firstPrimitive by a contract; the walk of the law of the first primitive element. -/
import Derived.Test.YtapglncgicfjnaaKG
namespace Go.Proofs.Ytapglncgicfjnaa
open Go.RowKit
/-- The block of a field. -/
abbrev fblk (q : Int) : Obj := .cells #[.int .i64 q, .int .i64 (pr q), .int .i64 (pl q)] 63
theorem cells3 {w : World} {b : Nat} {x0 x1 x2 : Value} (h : w.heap[b]? = some (.cells #[x0, x1, x2] 63 (0, 0))) :
    w.cell? ⟨b, 0, none⟩ = some x0 ∧ w.cell? ⟨b, 1, none⟩ = some x1 ∧ w.cell? ⟨b, 2, none⟩ = some x2 ∧ (∀ o, w.frozen? ⟨b, o, none⟩ = false) ∧ b < w.heap.size := by
  refine ⟨?_, ?_, ?_, fun o => frozen_of_row w b o _ _ h, (Array.getElem?_eq_some_iff.1 h).1⟩ <;> rw [cell_of_row w b _ _ _ (0, 0) h] <;> rfl

set_option maxHeartbeats 1000000 in
/-- impl.field.firstPrimitive. -/
theorem firstPrimitiveE (q : Int) (w : World) (h : isSz q = true) :
    Calls Try.prog 86 #[fdE q] w fun e w' => e = .returned (elE q (firstP q)) ∧ Below w.heap.size w w' := by
  have hq := isSz_le q h
  obtain ⟨_, hp0, hp1, _, hpo⟩ := firstP_spec q h
  have HE := Lib.hid (fun (n : Nat) w (h2 : (n : Int) < q) => elementE q (n : Int) w h (by omega) h2)
  have HI := Lib.hid (fun (n : Nat) w (h1 : 1 ≤ n) (h2 : (n : Int) < q) => isPrimitiveE q (n : Int) w h (by omega) h2)
  have HL := Lib.hid (firstP_least q h)
  have HO : Hid (((ordN q (firstP q) : Int) == q - 1) = true) := Lib.hid (by rw [hpo]; simp)
  clear hpo h
  obtain ⟨g, hg⟩ := Int.eq_ofNat_of_zero_le (show 0 ≤ firstP q by omega)
  rw [hg] at hp0 hp1 HO HL ⊢
  have HG := Lib.hid hg; clear hg
  go_enter Try.func86, Try.ntmps86
  go_wp2_with fail
  go_loopw [3] (fun va wr => ∃ n : Nat, 1 ≤ n ∧ n ≤ g ∧ va = .int .i64 n ∧ wr.heap[w.heap.size]? = some (fblk q) ∧ wr.heap[w.heap.size + 1]? = some zeroblk ∧ Below w.heap.size w wr) (fun va _ => g - (intOf va).toNat)
  case atStart => exact ⟨1, Nat.le_refl _, by omega, rfl, (two _ _ _).1, (two _ _ _).2, by (repeat' (first | (with_reducible assumption) | (with_reducible exact Below.refl _ _) | (with_reducible refine below_drewN ?_ _) | (with_reducible refine Below.drew ?_) | (with_reducible refine Below.alloc ?_ ?_ _) | (with_reducible refine Below.setCell ?_ ?_ _) | (with_reducible refine Below.trans ?_ (Below.mono (by assumption) ?_)) | (with_reducible exact Nat.le_refl _) | (with_reducible assumption) | omega | (simp; omega) | (simp; done)))⟩
  case round =>
    obtain ⟨n, hn1, hng, rfl, hf, hr, hb⟩ := hrel
    obtain ⟨f0, f1, f2, ff, fl⟩ := cells3 hf
    obtain ⟨r0, r1, r2, r3, r4, r5, r6, rf, rl⟩ := seven hr
    have HF := Lib.hid hf; clear hf
    have HR := Lib.hid hr; clear hr
    have HB := Lib.hid hb; clear hb
    have hnq : (n : Int) < q := by omega
    by_cases hlt : n < g
    · have t := HL.out n hn1 (by omega)
      clear r0 r1 r2 r3 r4 r5 r6 rf
      go_wp2_with fail
      refine (HE.out n _ hnq).mono ?_
      rintro e w2 ⟨rfl, hb2⟩
      obtain ⟨hc2, hf2⟩ := bcell hb2; (try simp only [World.size_drew] at hc2 hf2); have hz2 := hb2.size; (try simp at hz2); have HB2 := Lib.hid hb2; clear hb2
      go_wp2_with fail
      refine (HI.out n _ hn1 hnq).mono ?_
      rintro e w3 ⟨rfl, hb3⟩
      obtain ⟨hc3, hf3⟩ := bcell hb3; (try simp only [World.size_drew] at hc3 hf3); have hz3 := hb3.size; (try simp at hz3); have HB3 := Lib.hid hb3; clear hb3
      go_wp2
      go_roundw
      case rel =>
        refine ⟨n + 1, by omega, by omega, by go_num, ?_, ?_, ?_⟩
        · rw [HB3.out.block _ (by omega), HB2.out.block _ (by omega)]; exact HF.out
        · rw [HB3.out.block _ (by omega), HB2.out.block _ (by omega)]; exact HR.out
        · have hb1 := HB.out
          have hb2 := HB2.out
          have hb3 := HB3.out
          have hz1 := hb1.size
          (repeat' (first | (with_reducible assumption) | (with_reducible exact Below.refl _ _) | (with_reducible refine below_drewN ?_ _) | (with_reducible refine Below.drew ?_) | (with_reducible refine Below.alloc ?_ ?_ _) | (with_reducible refine Below.setCell ?_ ?_ _) | (with_reducible refine Below.trans ?_ (Below.mono (by assumption) ?_)) | (with_reducible exact Nat.le_refl _) | (with_reducible assumption) | omega | (simp; omega) | (simp; done)))
      case measure => simp [intOf]; omega
    · obtain rfl : g = n := by omega
      have t : ((ordN q (g : Int) : Int) == q - 1) = true := HO.out
      go_wp2_with fail
      refine (HE.out g _ hnq).mono ?_
      rintro e w2 ⟨rfl, hb2⟩
      obtain ⟨hc2, hf2⟩ := bcell hb2; (try simp only [World.size_drew] at hc2 hf2); have hz2 := hb2.size; (try simp at hz2); have HB2 := Lib.hid hb2; clear hb2
      have l20 : w.heap.size < w2.heap.size := by omega
      have l21 : w.heap.size + 1 < w2.heap.size := by omega
      go_wp2_with fail
      refine (HI.out g _ hn1 hnq).mono ?_
      rintro e w3 ⟨rfl, hb3⟩
      obtain ⟨hc3, hf3⟩ := bcell hb3; (try simp only [World.size_drew] at hc3 hf3); have hz3 := hb3.size; (try simp at hz3); have HB3 := Lib.hid hb3; clear hb3
      have l30 : w.heap.size < w3.heap.size := by omega
      have l31 : w.heap.size + 1 < w3.heap.size := by omega
      go_wp2_with fail
      refine (HE.out g _ hnq).mono ?_
      rintro e w4 ⟨rfl, hb4⟩
      obtain ⟨hc4, hf4⟩ := bcell hb4; (try simp only [World.size_drew] at hc4 hf4); have hz4 := hb4.size; (try simp at hz4); have HB4 := Lib.hid hb4; clear hb4
      have l40 : w.heap.size < w4.heap.size := by omega
      have l41 : w.heap.size + 1 < w4.heap.size := by omega
      go_wp2_with fail
      have hb1 := HB.out
      have hb2 := HB2.out
      have hb3 := HB3.out
      have hb4 := HB4.out
      have hz1 := hb1.size
      have q0 : w4.heap[w.heap.size + 1]? = some zeroblk := by rw [hb4.block _ (by omega), hb3.block _ (by omega), hb2.block _ (by omega)]; exact HR.out
      obtain ⟨s0, s1, s2, s3, s4, s5, s6, sf, sl⟩ := seven q0
      clear q0
      refine bodyPost_ret (v := elE q (g : Int)) (by simp [results, Try.results86, go_sem, s0, s1, s2, s3, s4, s5, s6]) rfl ⟨rfl, ?_⟩
      (repeat' (first | (with_reducible assumption) | (with_reducible exact Below.refl _ _) | (with_reducible refine below_drewN ?_ _) | (with_reducible refine Below.drew ?_) | (with_reducible refine Below.alloc ?_ ?_ _) | (with_reducible refine Below.setCell ?_ ?_ _) | (with_reducible refine Below.trans ?_ (Below.mono (by assumption) ?_)) | (with_reducible exact Nat.le_refl _) | (with_reducible assumption) | omega | (simp; omega) | (simp; done)))

/-- spec.FirstPrimitive. -/
theorem spec_FirstPrimitive_yes (q : Int) (w : World) (h : isSz q = true) :
    Calls Try.prog 36 #[.int .i64 q] w fun e w' => e = .returned (.tuple #[.int .i64 (firstP q), .bool true]) ∧ Below w.heap.size w w' := by
  have HC := Lib.hid (fun w => fdPrimitive_any q w h)
  obtain ⟨hg, _, _, hl, _⟩ := firstP_spec q h
  generalize primTo q q.toNat = l at *
  have HG := Lib.hid hg; clear hg
  go_enter Try.func36, Try.ntmps36
  go_wp2_with fail
  refine (fdSize_any _ _).mono ?_
  rintro e w1 ⟨rfl, hb1⟩
  have hz_hb1 := hb1.size; (try simp at hz_hb1)
  go_wp2_with fail
  refine (HC.out _).mono ?_
  rintro e w2 ⟨v, rfl, hr, hb2⟩
  have hz_hb2 := hb2.size; (try simp at hz_hb2)
  obtain ⟨g, c, rfl, _, _⟩ := hr.form hl
  have hc := Row.cell hr 0 hl
  rw [HG.out] at hc
  have hpos : (0 : Int) < (l.length : Int) := by omega
  clear hr
  have HB1 := Lib.hid hb1; clear hb1
  have HB2 := Lib.hid hb2; clear hb2
  go_wp2
  go_ret2
  have hb1 := HB1.out
  have hb2 := HB2.out
  exact ⟨rfl, by (repeat' (first | (with_reducible assumption) | (with_reducible exact Below.refl _ _) | (with_reducible refine below_drewN ?_ _) | (with_reducible refine Below.drew ?_) | (with_reducible refine Below.alloc ?_ ?_ _) | (with_reducible refine Below.setCell ?_ ?_ _) | (with_reducible refine Below.trans ?_ (Below.mono (by assumption) ?_)) | (with_reducible exact Nat.le_refl _) | (with_reducible assumption) | omega | (simp; omega) | (simp; done)))⟩
theorem spec_FirstPrimitive_no (q : Int) (w : World) (h : isSz q = false) :
    Calls Try.prog 36 #[.int .i64 q] w fun e w' => e = .returned (.tuple #[.int .i64 0, .bool false]) ∧ Below w.heap.size w w' := by
  go_enter Try.func36, Try.ntmps36
  go_wp2_with fail
  refine (fdSize_any _ _).mono ?_
  rintro e w1 ⟨rfl, hb1⟩
  have hz_hb1 := hb1.size; (try simp at hz_hb1)
  go_wp2_with fail
  go_ret2
  exact ⟨rfl, by (repeat' (first | (with_reducible assumption) | (with_reducible exact Below.refl _ _) | (with_reducible refine below_drewN ?_ _) | (with_reducible refine Below.drew ?_) | (with_reducible refine Below.alloc ?_ ?_ _) | (with_reducible refine Below.setCell ?_ ?_ _) | (with_reducible refine Below.trans ?_ (Below.mono (by assumption) ?_)) | (with_reducible exact Nat.le_refl _) | (with_reducible assumption) | omega | (simp; omega) | (simp; done)))⟩
theorem impl_FirstPrimitive_no (q : Int) (w : World) (h : isSz q = false) :
    Calls Try.prog 32 #[.int .i64 q] w fun e w' => e = .returned (.tuple #[.int .i64 0, .bool false]) ∧ Below w.heap.size w w' := by
  have HC := Lib.hid (fun w => fieldOf_no q w h)
  clear h
  go_enter Try.func32, Try.ntmps32
  go_wp2_with fail
  refine (HC.out _).mono ?_
  rintro e w1 ⟨rfl, hb1⟩
  have hz_hb1 := hb1.size; (try simp at hz_hb1)
  have HB1 := Lib.hid hb1; clear hb1
  go_wp2_with fail
  go_ret2
  have hb1 := HB1.out
  exact ⟨rfl, by (repeat' (first | (with_reducible assumption) | (with_reducible exact Below.refl _ _) | (with_reducible refine below_drewN ?_ _) | (with_reducible refine Below.drew ?_) | (with_reducible refine Below.alloc ?_ ?_ _) | (with_reducible refine Below.setCell ?_ ?_ _) | (with_reducible refine Below.trans ?_ (Below.mono (by assumption) ?_)) | (with_reducible exact Nat.le_refl _) | (with_reducible assumption) | omega | (simp; omega) | (simp; done)))⟩
theorem impl_FirstPrimitive_yes (q : Int) (w : World) (h : isSz q = true) :
    Calls Try.prog 32 #[.int .i64 q] w fun e w' => e = .returned (.tuple #[.int .i64 (firstP q), .bool true]) ∧ Below w.heap.size w w' := by
  obtain ⟨_, hp0, hp1, _, _⟩ := firstP_spec q h
  have HC := Lib.hid (fun w => fieldOf_yes q w h)
  have HP := Lib.hid (fun w => firstPrimitiveE q w h)
  have HN := Lib.hid (fun w => numberE q (firstP q) w h (by omega) hp1)
  clear h hp0 hp1
  go_enter Try.func32, Try.ntmps32
  go_wp2_with fail
  refine (HC.out _).mono ?_
  rintro e w1 ⟨rfl, hb1⟩
  have hz_hb1 := hb1.size; (try simp at hz_hb1)
  have HB1 := Lib.hid hb1; clear hb1
  go_wp2_with fail
  refine (HP.out _).mono ?_
  rintro e w2 ⟨rfl, hb2⟩
  have hz_hb2 := hb2.size; (try simp at hz_hb2)
  have HB2 := Lib.hid hb2; clear hb2
  go_wp2_with fail
  refine (HN.out _).mono ?_
  rintro e w3 ⟨rfl, hb3⟩
  have hz_hb3 := hb3.size; (try simp at hz_hb3)
  have HB3 := Lib.hid hb3; clear hb3
  go_wp2
  go_ret2
  have hb1 := HB1.out
  have hb2 := HB2.out
  have hb3 := HB3.out
  exact ⟨rfl, by (repeat' (first | (with_reducible assumption) | (with_reducible exact Below.refl _ _) | (with_reducible refine below_drewN ?_ _) | (with_reducible refine Below.drew ?_) | (with_reducible refine Below.alloc ?_ ?_ _) | (with_reducible refine Below.setCell ?_ ?_ _) | (with_reducible refine Below.trans ?_ (Below.mono (by assumption) ?_)) | (with_reducible exact Nat.le_refl _) | (with_reducible assumption) | omega | (simp; omega) | (simp; done)))⟩
end Go.Proofs.Ytapglncgicfjnaa
