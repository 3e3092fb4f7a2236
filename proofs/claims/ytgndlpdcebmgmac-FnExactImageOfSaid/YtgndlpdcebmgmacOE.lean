/- impl.valueCounts.list, different; impl.valueTable.placesOf, by contracts. -/
import Derived.Test.YtgndlpdcebmgmacOD
import Derived.Test.YtgndlpdcebmgmacLC
namespace Go.Proofs.Ytgndlpdcebmgmac
open Go.RowKit
theorem VA_012 (q : Int) (c : Nat → Int) : (VA q c)[0]? = some (.int .i64 q) ∧ (VA q c)[1]? = some (.int .i64 (pr q)) ∧ (VA q c)[2]? = some (.int .i64 (pl q)) := ⟨rfl, rfl, rfl⟩
/-- An element with places. -/
def ps (c : Nat → Int) (y : Nat) : Bool := decide (0 < c y)
set_option maxHeartbeats 2000000 in
/-- The closure of impl.valueCounts.list. -/
theorem liClo (m i K : Nat) (c : Nat → Int) (w : World) (h : isSz (m : Int) = true) (hi : i < m) (hK : w.heap[K]? = some (vblk (m : Int) c)) :
    Calls Try.prog 57 #[elE (m : Int) (i : Int), .pointer (some ⟨K, 0, none⟩)] w fun e w' => e = .returned (.bool (ps c i)) ∧ Below w.heap.size w w' := by
  have hq := isSz_le (m : Int) h
  have hKl : K < w.heap.size := (Array.getElem?_eq_some_iff.1 hK).1
  have HN := Lib.hid (fun w => numberE (m : Int) (i : Int) w h (El.nat hi).1 (El.nat hi).2)
  have HC : Hid (∀ w', Below w.heap.size w w' → w'.cell? ⟨K, 3 + i, none⟩ = some (.int .i64 (c i))) := Lib.hid fun w' hb => (vcells ((hb.block _ hKl).trans hK)).2.2.2.1 i (by omega)
  have HI : Hid (ps c i = decide (0 < c i)) := Lib.hid rfl
  rw [HI.out]
  clear h hK HI
  generalize c i = x at *
  have hi16 : i < 16 := by omega
  go_enter Try.func57, Try.ntmps57
  go_wp2_with fail
  refine (HN.out _).mono ?_
  rintro e w1 ⟨rfl, hb1⟩
  have hc := HC.out w1 (by (repeat' (first | (with_reducible assumption) | (with_reducible exact Below.refl _ _) | (with_reducible refine below_drewN ?_ _) | (with_reducible refine Below.drew ?_) | (with_reducible refine Below.alloc ?_ ?_ _) | (with_reducible refine Below.setCell ?_ ?_ _) | (with_reducible refine Below.trans ?_ (Below.mono (by assumption) ?_)) | (with_reducible exact Nat.le_refl _) | (with_reducible assumption) | omega | (simp; omega) | (simp; done))))
  obtain ⟨hc1, hf1⟩ := bcell hb1; have hz1 := hb1.size; (try simp at hz1); have HB1 := Lib.hid hb1; clear hb1
  go_wp2
  go_ret
  have hb1 := HB1.out
  exact ⟨rfl, by (repeat' (first | (with_reducible assumption) | (with_reducible exact Below.refl _ _) | (with_reducible refine below_drewN ?_ _) | (with_reducible refine Below.drew ?_) | (with_reducible refine Below.alloc ?_ ?_ _) | (with_reducible refine Below.setCell ?_ ?_ _) | (with_reducible refine Below.trans ?_ (Below.mono (by assumption) ?_)) | (with_reducible exact Nat.le_refl _) | (with_reducible assumption) | omega | (simp; omega) | (simp; done)))⟩
set_option maxHeartbeats 2000000 in
/-- impl.field.numbersWhere at impl.valueCounts.list$1. -/
theorem numbersWhere_li (q : Int) (w : World) (h : isSz q = true) (P : Nat → Bool) (R : Nat) (HX0 : ∀ (n : Nat) w', (n : Int) < q → Below w.heap.size w w' → Calls Try.prog 57 #[elE q (n : Int), .pointer (some ⟨R, 0, none⟩)] w' fun e w'' => e = .returned (.bool (P n)) ∧ Below w'.heap.size w' w'') :
    Calls Try.prog 56 #[fdE q, .func (.func 57) #[] #[.pointer (some ⟨R, 0, none⟩)]] w fun e w' => ∃ v, e = .returned v ∧ Row w' w.heap.size v (wh P q.toNat) ∧ Below w.heap.size w w' := by
  obtain ⟨i0, hi, iz0, iz1, iz2⟩ := info_parts Try.infoI
  have hq := isSz_le q h
  have HE := Lib.hid (fun w => elements_any q w h)
  have HX := Lib.hid HX0; clear HX0
  obtain ⟨m, hm⟩ := Int.eq_ofNat_of_zero_le (show 0 ≤ q by omega)
  subst hm
  rw [Int.toNat_natCast] at HE ⊢
  clear h
  go_enter Try.func56, Try.ntmps56
  go_wp2_with fail
  refine (HE.out _).mono ?_
  rintro e w3 ⟨g, cp, rfl, hg, hkb, hel, hb3⟩
  simp at hg
  have hgl := hkb.lt
  have hb : Below w.heap.size w w3 := by (repeat' (first | (with_reducible assumption) | (with_reducible exact Below.refl _ _) | (with_reducible refine below_drewN ?_ _) | (with_reducible refine Below.drew ?_) | (with_reducible refine Below.alloc ?_ ?_ _) | (with_reducible refine Below.setCell ?_ ?_ _) | (with_reducible refine Below.trans ?_ (Below.mono (by assumption) ?_)) | (with_reducible exact Nat.le_refl _) | (with_reducible assumption) | omega | (simp; omega) | (simp; done)))
  have HK3 := Lib.hid hkb
  have HL3 := Lib.hid hel
  have HB3 := Lib.hid hb
  have HCR : Hid (∀ wr, Below w3.heap.size w3 wr → Below w.heap.size w wr) := Lib.hid (fun wr hbw => hb.trans (hbw.mono hb.size))
  have hz3 := hb.size
  clear hkb hel hb hb3
  go_wp2_with fail
  go_loopw [5, 11] (fun vo vi wr => ∃ i : Nat, i ≤ m ∧ vi = .int .i64 i ∧ Row wr w3.heap.size vo (wh P i) ∧ Below w3.heap.size w3 wr) (fun _ vi _ => m - (intOf vi).toNat)
  case atStart => exact ⟨0, Nat.zero_le _, rfl, Row.nil _ _, Below.refl _ _⟩
  case round =>
    obtain ⟨i, hi', rfl, hr, hbw⟩ := hrel
    have hz := hbw.size
    have HL := Lib.hid (wh_len P i)
    by_cases hlt : i < m
    · obtain ⟨c0, c1, c2, c3, c4, c5, c6⟩ := (HL3.out.below hbw hgl) i hlt
      have hgr : g < wr.heap.size := by omega
      have hnq : (i : Int) < (m : Int) := by omega
      have HR := Lib.hid hr; clear hr
      have HBW := Lib.hid hbw; clear hbw
      have HX' := Lib.hid (fun w' hb => HX.out i w' hnq hb)
      cases hp : P i with
      | true =>
        rw [hp] at HX'
        have HS := Lib.hid (wh_yes P i hp); clear hp
        go_wp2_with fail
        refine (HX'.out _ ((HCR.out _ HBW.out).alloc (by omega) _)).mono ?_
        rintro e w5 ⟨rfl, hb5⟩
        have hz_hb5 := hb5.size; (try simp at hz_hb5)
        have HR5 := Lib.hid ((HR.out.alloc (eblk (m : Int) (i : Int))).below hb5)
        have HB5 : Hid (Below wr.heap.size wr w5) := Lib.hid (by (repeat' (first | (with_reducible assumption) | (with_reducible exact Below.refl _ _) | (with_reducible refine below_drewN ?_ _) | (with_reducible refine Below.drew ?_) | (with_reducible refine Below.alloc ?_ ?_ _) | (with_reducible refine Below.setCell ?_ ?_ _) | (with_reducible refine Below.trans ?_ (Below.mono (by assumption) ?_)) | (with_reducible exact Nat.le_refl _) | (with_reducible assumption) | omega | (simp; omega) | (simp; done))))
        clear hb5
        go_wp2_with (at_builtin; refine wpList_append_own _ rfl _ _ 22 rfl w3.heap.size 3 i0 (.int .i64 0) 1 8 Try.underlying22 hi iz0 iz1 iz2 rfl (by decide) _ _ _ rfl (World.ownsRow.alloc HR5.out _) ⟨w5.heap.size, 0, none⟩ 1 1 [.int .i64 i] rfl rfl ?c1 ?c2 ?c3 ?c4 ?c5 ?_)
        case c1 => exact cell_one_new _ _ _
        case c2 => intro u hu; simp at hu; subst hu; rfl
        case c3 => have := HL.out; unfold maxLen; omega
        case c4 => have := HL.out; omega
        case c5 => simp; omega
        intro v' w6 hown hgrow _
        have HR6 := Lib.hid (Row.appended hown)
        have hb : Below w3.heap.size w3 (w5.alloc (.cells #[.int .i64 i] 3)) := (HBW.out.trans (HB5.out.mono hz)).alloc (by omega) _
        have HB6 := Lib.hid (hb.grown hgrow (by simp; omega) (fun g hg => (HR5.out.lt g hg).1))
        clear hown hgrow hb
        go_wp2
        go_roundw
        case rel => exact ⟨i + 1, by omega, by go_num, by rw [HS.out]; exact HR6.out, HB6.out⟩
        case measure => simp [intOf]; omega
      | false =>
        rw [hp] at HX'
        have HS := Lib.hid (wh_no P i hp); clear hp
        go_wp2_with fail
        refine (HX'.out _ ((HCR.out _ HBW.out).alloc (by omega) _)).mono ?_
        rintro e w5 ⟨rfl, hb5⟩
        have hz_hb5 := hb5.size; (try simp at hz_hb5)
        have HR5 := Lib.hid ((HR.out.alloc (eblk (m : Int) (i : Int))).below hb5)
        have HB5 : Hid (Below wr.heap.size wr w5) := Lib.hid (by (repeat' (first | (with_reducible assumption) | (with_reducible exact Below.refl _ _) | (with_reducible refine below_drewN ?_ _) | (with_reducible refine Below.drew ?_) | (with_reducible refine Below.alloc ?_ ?_ _) | (with_reducible refine Below.setCell ?_ ?_ _) | (with_reducible refine Below.trans ?_ (Below.mono (by assumption) ?_)) | (with_reducible exact Nat.le_refl _) | (with_reducible assumption) | omega | (simp; omega) | (simp; done))))
        clear hb5
        go_wp2
        go_roundw
        case rel => exact ⟨i + 1, by omega, by go_num, by rw [HS.out]; exact HR5.out, HBW.out.trans (HB5.out.mono hz)⟩
        case measure => simp [intOf]; omega
    · obtain rfl : m = i := by omega
      have HR := Lib.hid hr; clear hr
      have HBW := Lib.hid hbw; clear hbw
      go_wp2
      go_ret
      exact ⟨_, rfl, HR.out.mono hz3, HB3.out.trans (HBW.out.mono hz3)⟩


set_option maxHeartbeats 2000000 in
/-- impl.valueCounts.list. -/
theorem listE (m : Nat) (c : Nat → Int) (w : World) (h : isSz (m : Int) = true) :
    Calls Try.prog 32 #[.agg (VA (m : Int) c)] w fun e w' => ∃ v, e = .returned v ∧ Row w' w.heap.size v (wh (ps c) m) ∧ Below w.heap.size w w' := by
  have hw := heap_alloc_new w (vblk (m : Int) c)
  obtain ⟨x0, x1, x2, _, _⟩ := vcells hw
  have HNW := Lib.hid (numbersWhere_li (m : Int) (w.alloc (vblk (m : Int) c)) h (ps c) w.heap.size fun n w' hn hb => liClo m n w.heap.size c w' h (by omega) ((hb.block _ (by simp)).trans hw))
  rw [Int.toNat_natCast] at HNW
  clear h hw x0 x1 x2
  rw [show VA (m : Int) c = #[.int .i64 m, .int .i64 (pr m), .int .i64 (pl m), .int .i64 (c 0), .int .i64 (c 1), .int .i64 (c 2), .int .i64 (c 3), .int .i64 (c 4), .int .i64 (c 5), .int .i64 (c 6), .int .i64 (c 7), .int .i64 (c 8), .int .i64 (c 9), .int .i64 (c 10), .int .i64 (c 11), .int .i64 (c 12), .int .i64 (c 13), .int .i64 (c 14), .int .i64 (c 15)] from rfl]
  go_enter Try.func32, Try.ntmps32
  go_wp2_with fail
  refine HNW.out.mono ?_
  rintro e w1 ⟨v, rfl, hr, hb1⟩
  have HR := Lib.hid hr; clear hr
  have HB1 := Lib.hid hb1; clear hb1
  go_wp2
  go_ret
  have hb1 := HB1.out
  exact ⟨_, rfl, HR.out.mono (by simp), by (repeat' (first | (with_reducible assumption) | (with_reducible exact Below.refl _ _) | (with_reducible refine below_drewN ?_ _) | (with_reducible refine Below.drew ?_) | (with_reducible refine Below.alloc ?_ ?_ _) | (with_reducible refine Below.setCell ?_ ?_ _) | (with_reducible refine Below.trans ?_ (Below.mono (by assumption) ?_)) | (with_reducible exact Nat.le_refl _) | (with_reducible assumption) | omega | (simp; omega) | (simp; done)))⟩
theorem row_slice' {w : World} {B : Nat} {v : Value} {l : List Int} (h : Row w B v l) : ∃ a cap, v = .slice a l.length cap := h.sl.form
set_option maxRecDepth 100000 in
set_option maxHeartbeats 2000000 in
/-- impl.valueCounts.different. -/
theorem differentE (m : Nat) (c : Nat → Int) (w : World) (h : isSz (m : Int) = true) :
    Calls Try.prog 59 #[.agg (VA (m : Int) c)] w fun e w' => e = .returned (.int .i64 (wh (ps c) m).length) ∧ Below w.heap.size w w' := by
  have hF : (w.alloc (.cells (VA (m : Int) c) 49)).heap[w.heap.size]? = some (.cells (VA (m : Int) c) 49 (0, 0)) := heap_alloc_new w _
  have HL := Lib.hid (fun w => listE m c w h)
  have hu := Try.underlying49
  have hi : (Try.prog.info? 49).map (·.size) = some (VA (m : Int) c).size := by rw [VA_size]; kernel_rfl
  clear h
  generalize VA (m : Int) c = A at *
  go_enter Try.func59, Try.ntmps59
  go_wp2_with (refine wpList_load_row rfl 49 _ rfl w.heap.size rfl 49 A (0, 0) _ hF hu rfl hi ?_)
  refine (HL.out _).mono ?_
  rintro e w1 ⟨v, rfl, hr, hb1⟩
  obtain ⟨a, cap, rfl⟩ := row_slice' hr
  clear hr
  obtain ⟨hc1, hf1⟩ := bcell hb1; have hz1 := hb1.size; (try simp at hz1); have HB1 := Lib.hid hb1; clear hb1
  go_wp2
  go_ret
  have hb1 := HB1.out
  exact ⟨rfl, by (repeat' (first | (with_reducible assumption) | (with_reducible exact Below.refl _ _) | (with_reducible refine below_drewN ?_ _) | (with_reducible refine Below.drew ?_) | (with_reducible refine Below.alloc ?_ ?_ _) | (with_reducible refine Below.setCell ?_ ?_ _) | (with_reducible refine Below.trans ?_ (Below.mono (by assumption) ?_)) | (with_reducible exact Nat.le_refl _) | (with_reducible assumption) | omega | (simp; omega) | (simp; done)))⟩
end Go.Proofs.Ytgndlpdcebmgmac
