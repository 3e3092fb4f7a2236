/- Primitive elements: spec.fdPrimitive, impl.element.isPrimitive, impl.field.firstPrimitive by contracts; the walk of the law of the first primitive element. -/
import Derived.Test.YthklnfanbegecaaX
namespace Go.Proofs.Ythklnfanbegecaa
open Go.RowKit
def chk0 (f : Int → Bool) : Bool := sizes.all f
theorem of_chk0 {f : Int → Bool} (h : chk0 f = true) (q : Int) (hq : isSz q = true) : f q = true := by
  have hm : q ∈ sizes := by simpa [isSz] using hq
  exact List.all_eq_true.1 h q hm
/-- The primitive elements below n. -/
def primTo (q : Int) (n : Nat) : List Int := ((List.range n).filter fun a : Nat => a != 0 && ((ordN q (a : Int) : Int) == q - 1)).map fun a : Nat => (a : Int)
theorem primTo_yes (q : Int) (n : Nat) (h0 : n ≠ 0) (h : ((ordN q (n : Int) : Int) == q - 1) = true) : primTo q (n + 1) = primTo q n ++ [(n : Int)] := by
  simp [primTo, List.range_succ, List.filter_append, h0, h]
theorem primTo_no (q : Int) (n : Nat) (h : ((ordN q (n : Int) : Int) == q - 1) = false) : primTo q (n + 1) = primTo q n := by
  simp [primTo, List.range_succ, List.filter_append, h]
theorem primTo_len (q : Int) (n : Nat) : (primTo q n).length ≤ n := by
  rw [primTo, List.length_map]
  exact Nat.le_trans (List.length_filter_le _ _) (by simp)
/-- The first primitive element. -/
def firstP (q : Int) : Int := if q = 2 then 1 else if q = 7 then 3 else if q = 9 then 4 else 2
set_option maxRecDepth 100000 in
theorem firstP_spec (q : Int) (h : isSz q = true) : (primTo q q.toNat).getD 0 0 = firstP q ∧ 0 < firstP q ∧ firstP q < q ∧ 0 < (primTo q q.toNat).length ∧ (ordN q (firstP q) : Int) = q - 1 :=
  of_decide_eq_true (of_chk0 (f := fun q => decide ((primTo q q.toNat).getD 0 0 = firstP q ∧ 0 < firstP q ∧ firstP q < q ∧ 0 < (primTo q q.toNat).length ∧ (ordN q (firstP q) : Int) = q - 1)) (by decide +kernel) q h)
set_option maxRecDepth 100000 in
theorem firstP_least (q : Int) (h : isSz q = true) (n : Nat) (h1 : 1 ≤ n) (h2 : (n : Int) < firstP q) : ((ordN q (n : Int) : Int) == q - 1) = false := by
  have hl := (firstP_spec q h).2.2.1
  have hc := of_chk1 (f := fun q a => a == 0 || decide (firstP q ≤ a) || !((ordN q a : Int) == q - 1)) (by decide +kernel) q (n : Int) h (by omega) (by omega)
  simp only [Bool.or_eq_true, beq_iff_eq, decide_eq_true_eq, Bool.not_eq_true'] at hc
  rcases hc with (hc | hc) | hc
  · omega
  · omega
  · exact hc

set_option maxHeartbeats 1000000 in
/-- spec.fdPrimitive. -/
theorem fdPrimitive_any (q : Int) (w : World) (h : isSz q = true) :
    Calls Try.prog 38 #[.int .i64 q] w fun e w' => ∃ v, e = .returned v ∧ Row w' w.heap.size v (primTo q q.toNat) ∧ Below w.heap.size w w' := by
  obtain ⟨i0, hi, iz0, iz1, iz2⟩ := info_parts Try.infoI
  have hq := isSz_le q h
  have HC := Lib.hid (fun (n : Nat) w (h1 : 1 ≤ n) (h2 : (n : Int) < q) => fdOrder_any q (n : Int) w h (by omega) h2)
  have HB16 := Lib.hid (fun (n : Nat) (h1 : 1 ≤ n) (h2 : (n : Int) < q) => (ordN_spec q (n : Int) h (by omega) h2).2.2)
  obtain ⟨m, hm⟩ := Int.eq_ofNat_of_zero_le (show 0 ≤ q by omega)
  subst hm
  rw [Int.toNat_natCast]
  clear h
  go_enter Try.func38, Try.ntmps38
  go_wp2
  go_loopw [3, 4] (fun vo va wr => ∃ n : Nat, 1 ≤ n ∧ n ≤ m ∧ va = .int .i64 n ∧ Row wr w.heap.size vo (primTo (m : Int) n) ∧ Below w.heap.size w wr) (fun _ va _ => m - (intOf va).toNat)
  case atStart => exact ⟨1, Nat.le_refl _, by omega, rfl, Row.nil _ _, Below.refl _ _⟩
  case round =>
    obtain ⟨n, hn1, hnm, rfl, hr, hb⟩ := hrel
    have hz := hb.size
    have HR := Lib.hid hr; clear hr
    have HB := Lib.hid hb; clear hb
    have HL := Lib.hid (primTo_len (m : Int) n)
    by_cases hlt : n < m
    · have ho := HB16.out n hn1 (by omega)
      cases ht : ((ordN (m : Int) (n : Int) : Int) == (m : Int) - 1) with
      | true =>
        have HT := Lib.hid (primTo_yes (m : Int) n (by omega) ht)
        generalize hg : ordN (m : Int) (n : Int) = od at *
        go_wp2_with fail
        refine (HC.out n _ hn1 (by omega)).mono ?_
        rw [hg]
        clear hg
        rintro e w2 ⟨rfl, hb2⟩
        have hz_hb2 := hb2.size; (try simp at hz_hb2)
        have HB2 := Lib.hid hb2; clear hb2
        have HR2 := Lib.hid (HR.out.below HB2.out)
        go_wp2_with (at_builtin; refine wpList_append_own _ rfl _ _ 22 rfl w.heap.size 3 i0 (.int .i64 0) 1 8 Try.underlying22 hi iz0 iz1 iz2 rfl (by decide) _ _ _ rfl (World.ownsRow.alloc HR2.out _) ⟨w2.heap.size, 0, none⟩ 1 1 [.int .i64 n] rfl rfl ?c1 ?c2 ?c3 ?c4 ?c5 ?_)
        case c1 => exact cell_one_new _ _ _
        case c2 => intro u hu; simp at hu; subst hu; rfl
        case c3 => have := HL.out; unfold maxLen; omega
        case c4 => have := HL.out; omega
        case c5 => simp; omega
        intro v' w3 hown hgrow _
        have HR3 := Lib.hid (Row.appended hown)
        have hb : Below w.heap.size w (w2.alloc (.cells #[.int .i64 n] 3)) := by have hb1 := HB.out; have hb2 := HB2.out; (repeat' (first | (with_reducible assumption) | (with_reducible exact Below.refl _ _) | (with_reducible refine below_drewN ?_ _) | (with_reducible refine Below.drew ?_) | (with_reducible refine Below.alloc ?_ ?_ _) | (with_reducible refine Below.setCell ?_ ?_ _) | (with_reducible refine Below.trans ?_ (Below.mono (by assumption) ?_)) | (with_reducible exact Nat.le_refl _) | (with_reducible assumption) | omega | (simp; omega) | (simp; done)))
        have HB3 := Lib.hid (hb.grown hgrow (by simp; omega) (fun g hg => (HR2.out.lt g hg).1))
        clear hown hgrow hb
        go_wp2
        go_roundw
        case rel => exact ⟨n + 1, by omega, by omega, by go_num, by rw [HT.out]; exact HR3.out, HB3.out⟩
        case measure => simp [intOf]; omega
      | false =>
        have HT := Lib.hid (primTo_no (m : Int) n ht)
        generalize hg : ordN (m : Int) (n : Int) = od at *
        go_wp2_with fail
        refine (HC.out n _ hn1 (by omega)).mono ?_
        rw [hg]
        clear hg
        rintro e w2 ⟨rfl, hb2⟩
        have hz_hb2 := hb2.size; (try simp at hz_hb2)
        have HB2 := Lib.hid hb2; clear hb2
        have HR2 := Lib.hid (HR.out.below HB2.out)
        go_wp2
        go_roundw
        case rel => exact ⟨n + 1, by omega, by omega, by go_num, by rw [HT.out]; exact HR2.out, by have hb1 := HB.out; have hb2 := HB2.out; (repeat' (first | (with_reducible assumption) | (with_reducible exact Below.refl _ _) | (with_reducible refine below_drewN ?_ _) | (with_reducible refine Below.drew ?_) | (with_reducible refine Below.alloc ?_ ?_ _) | (with_reducible refine Below.setCell ?_ ?_ _) | (with_reducible refine Below.trans ?_ (Below.mono (by assumption) ?_)) | (with_reducible exact Nat.le_refl _) | (with_reducible assumption) | omega | (simp; omega) | (simp; done)))⟩
        case measure => simp [intOf]; omega
    · obtain rfl : m = n := by omega
      go_wp2
      go_ret
      exact ⟨_, rfl, HR.out, HB.out⟩

set_option maxHeartbeats 1000000 in
/-- impl.element.isPrimitive, not at 0. -/
theorem isPrimitiveE (q a : Int) (w : World) (h : isSz q = true) (a0 : 0 < a) (a1 : a < q) :
    Calls Try.prog 41 #[elE q a] w fun e w' => e = .returned (.bool ((ordN q a : Int) == q - 1)) ∧ Below w.heap.size w w' := by
  have hq := isSz_le q h
  have HZ := Lib.hid (fun w => isZeroE q a w h (by omega) a1)
  have hd : decide (a = 0) = false := by simp; omega
  simp only [hd] at HZ
  have HO := Lib.hid (fun w => orderE q a w h a0 a1)
  have HWr : Hid (IntKind.i64.wrap (q - 1) = q - 1) := Lib.hid (IntWalk.i64_in _ (by omega))
  clear hd h
  go_enter Try.func41, Try.ntmps41
  go_wp2
  go_region_with (first | (go_at_call 70; refine (HZ.out _).mono ?_; rintro e w2 ⟨rfl, hb2⟩; obtain ⟨hc2, hf2⟩ := bcell hb2; (try simp only [World.size_drew] at hc2 hf2); have hz2 := hb2.size; (try simp at hz2); have HB2 := Lib.hid hb2; clear hb2; have l2 : w.heap.size < w2.heap.size := (by omega)) | (go_at_call 71; refine (HO.out _).mono ?_; rintro e w3 ⟨rfl, hb3⟩; obtain ⟨hc3, hf3⟩ := bcell hb3; (try simp only [World.size_drew] at hc3 hf3); have hz3 := hb3.size; (try simp at hz3); have HB3 := Lib.hid hb3; clear hb3; have l3 : w.heap.size < w3.heap.size := (by omega)))
  all_goals
    go_wp2
    go_ret
    refine ⟨by simp [Act.put, HWr.out], ?_⟩
    have hb2 := HB2.out
    have hb3 := HB3.out
    (repeat' (first | (with_reducible assumption) | (with_reducible exact Below.refl _ _) | (with_reducible refine below_drewN ?_ _) | (with_reducible refine Below.drew ?_) | (with_reducible refine Below.alloc ?_ ?_ _) | (with_reducible refine Below.setCell ?_ ?_ _) | (with_reducible refine Below.trans ?_ (Below.mono (by assumption) ?_)) | (with_reducible exact Nat.le_refl _) | (with_reducible assumption) | omega | (simp; omega) | (simp; done)))
end Go.Proofs.Ythklnfanbegecaa
