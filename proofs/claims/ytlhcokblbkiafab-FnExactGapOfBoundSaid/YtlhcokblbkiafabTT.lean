/- RemainderPoly, CommonFactor and HasNoSquare, of both, by contracts; the walks of their laws. -/
import Derived.Test.YtlhcokblbkiafabTS
import Derived.Test.YtlhcokblbkiafabKJ
import Derived.Deep.RegionHeld3
namespace Go.Proofs.Ytlhcokblbkiafab
open Go.RowKit
/-- impl.poly.isZero. -/
theorem isZeroP (q : Int) (g n cap : Nat) (w : World) :
    Calls Try.prog 38 #[polyE q (.slice (some ⟨g, 0, none⟩) n cap)] w fun e w' => e = .returned (.bool (decide (n = 0))) ∧ Below w.heap.size w w' := by
  by_cases h0 : n = 0
  · subst h0
    go_enter Try.func38, Try.ntmps38
    go_wp2
    go_ret
    exact ⟨rfl, by (repeat' (first | (with_reducible assumption) | (with_reducible exact Below.refl _ _) | (with_reducible refine below_drewN ?_ _) | (with_reducible refine Below.drew ?_) | (with_reducible refine Below.alloc ?_ ?_ _) | (with_reducible refine Below.setCell ?_ ?_ _) | (with_reducible refine Below.trans ?_ (Below.mono (by assumption) ?_)) | (with_reducible exact Nat.le_refl _) | (with_reducible assumption) | omega | (simp; omega) | (simp; done)))⟩
  · rw [decide_eq_false h0]
    have hne : ((n : Int) == 0) = false := by simpa using h0
    clear h0
    go_enter Try.func38, Try.ntmps38
    go_wp2
    go_ret
    exact ⟨by first | rfl | exact ret_bool hne | exact ret_bool (by simpa using hne), by (repeat' (first | (with_reducible assumption) | (with_reducible exact Below.refl _ _) | (with_reducible refine below_drewN ?_ _) | (with_reducible refine Below.drew ?_) | (with_reducible refine Below.alloc ?_ ?_ _) | (with_reducible refine Below.setCell ?_ ?_ _) | (with_reducible refine Below.trans ?_ (Below.mono (by assumption) ?_)) | (with_reducible exact Nat.le_refl _) | (with_reducible assumption) | omega | (simp; omega) | (simp; done)))⟩
/-- Both polynomials. -/
def two2 (q : Int) (l1 l2 : List Int) : Bool := (isSz q && good q l1) && (isSz q && good q l2)
/-- Both polynomials, the second one other than 0. -/
def rok (q : Int) (l1 l2 : List Int) : Bool := two2 q l1 l2 && decide (0 < l2.length)
theorem two2_nat {q : Int} {l1 l2 : List Int} (h : two2 q l1 l2 = true) : ∃ m : Nat, q = (m : Int) ∧ isSz (m : Int) = true ∧ good (m : Int) l1 = true ∧ good (m : Int) l2 = true := by
  simp only [two2, Bool.and_eq_true] at h
  have hq := isSz_le q h.1.1
  obtain ⟨m, rfl⟩ := Int.eq_ofNat_of_zero_le (show 0 ≤ q by omega)
  exact ⟨m, rfl, h.1.1, h.1.2, h.2.2⟩
set_option maxRecDepth 100000 in
set_option maxHeartbeats 4000000 in
theorem spec_RemainderPoly_no (q : Int) (v1 v2 : Value) (l1 l2 : List Int) (w : World) (hv1 : Sl w v1 l1) (hv2 : Sl w v2 l2) (hl1 : l1.length ≤ 1048576) (hl2 : l2.length ≤ 1048576) (hn : rok q l1 l2 = false) :
    Calls Try.prog 20 #[.int .i64 q, v1, v2] w fun e w' => e = .returned (.tuple #[.slice none 0 0, .bool false]) ∧ Below w.heap.size w w' := by
  have HP1 := Lib.hid (plGood_any q v1 l1 w hv1 hl1)
  have HP2 := Lib.hid (fun w' (hb : Below w.heap.size w w') => plGood_any q v2 l2 w' (hv2.below hb (Nat.le_refl _)) hl2)
  obtain ⟨a2, c2, hf⟩ := hv2.form
  subst hf
  unfold rok two2 at hn
  clear hv1 hv2 hl1 hl2
  cases h1 : isSz q && good q l1 with
  | false =>
    rw [h1] at HP1
    clear hn h1 HP2
    go_enter Try.func20, Try.ntmps20
    go_wp2_with fail
    refine HP1.out.mono ?_
    rintro e w1 ⟨rfl, hb1⟩
    go_wp2
    go_ret2
    exact ⟨rfl, hb1⟩
  | true =>
    rw [h1] at HP1 hn
    cases h2 : isSz q && good q l2 with
    | false =>
      rw [h2] at HP2
      clear hn h1 h2
      go_enter Try.func20, Try.ntmps20
      go_wp2_with fail
      refine HP1.out.mono ?_
      rintro e w1 ⟨rfl, hb1⟩
      have hz1 := hb1.size
      have HB1 := Lib.hid hb1; clear hb1
      go_wp2_with fail
      refine (HP2.out _ HB1.out).mono ?_
      rintro e w2 ⟨rfl, hb2⟩
      have HB2 : Hid (Below w.heap.size w w2) := Lib.hid (HB1.out.trans (hb2.mono hz1)); clear hb2
      go_wp2
      go_ret2
      exact ⟨rfl, HB2.out⟩
    | true =>
      rw [h2, Bool.true_and, Bool.true_and, decide_eq_false_iff_not] at hn
      rw [h2] at HP2
      have h0 : l2.length = 0 := by omega
      rw [h0] at HP2 ⊢
      clear hn h1 h2 h0
      go_enter Try.func20, Try.ntmps20
      go_wp2_with fail
      refine HP1.out.mono ?_
      rintro e w1 ⟨rfl, hb1⟩
      have hz1 := hb1.size
      have HB1 := Lib.hid hb1; clear hb1
      go_wp2_with fail
      refine (HP2.out _ HB1.out).mono ?_
      rintro e w2 ⟨rfl, hb2⟩
      have HB2 : Hid (Below w.heap.size w w2) := Lib.hid (HB1.out.trans (hb2.mono hz1)); clear hb2
      go_wp2
      go_ret2
      exact ⟨rfl, HB2.out⟩
set_option maxRecDepth 100000 in
set_option maxHeartbeats 4000000 in
theorem spec_RemainderPoly_yes (m : Nat) (v1 v2 : Value) (l1 l2 : List Int) (w : World) (h : isSz (m : Int) = true) (hv1 : Sl w v1 l1) (hv2 : Sl w v2 l2) (hg1 : good (m : Int) l1 = true) (hg2 : good (m : Int) l2 = true) (h0 : 0 < l2.length) :
    Calls Try.prog 20 #[.int .i64 m, v1, v2] w fun e w' => ∃ v', e = .returned (.tuple #[v', .bool true]) ∧ Row w' w.heap.size v' (remL m l1 l2) ∧ Below w.heap.size w w' := by
  have hq := isSz_le (m : Int) h
  have hlen1 := (good_parts hg1).1
  have hlen2 := (good_parts hg2).1
  have hp1 := plGood_any (m : Int) v1 l1 w hv1 (by omega)
  rw [h, hg1] at hp1
  have HP1 := Lib.hid hp1
  have HP2 : Hid (∀ w', Below w.heap.size w w' → Calls Try.prog 22 #[.int .i64 m, v2] w' fun e w'' => e = .returned (.bool true) ∧ Below w'.heap.size w' w'') := Lib.hid fun w' hb => by
    have := plGood_any (m : Int) v2 l2 w' (hv2.below hb (Nat.le_refl _)) (by omega)
    rw [h, hg2] at this
    exact this
  have HR := Lib.hid (fun w' (hb : Below w.heap.size w w') => ctRest_any m v1 v2 l1 l2 w' h (hv1.below hb (Nat.le_refl _)) (hv2.below hb (Nat.le_refl _)) (pg_good h hg1) (pg_good h hg2) h0)
  obtain ⟨a2, c2, hf⟩ := hv2.form
  subst hf
  clear hp1 hv1 hv2 hg1 hg2 h
  have hne : ¬ ((l2.length : Int) = 0) := by omega
  generalize l2.length = k2 at *
  generalize remL m l1 l2 = r at *
  go_enter Try.func20, Try.ntmps20
  go_wp2_with fail
  refine HP1.out.mono ?_
  rintro e w1 ⟨rfl, hb1⟩
  have hz1 := hb1.size
  have HB1 := Lib.hid hb1; clear hb1
  go_wp2_with fail
  refine (HP2.out _ HB1.out).mono ?_
  rintro e w2 ⟨rfl, hb2⟩
  have HB2 : Hid (Below w.heap.size w w2) := Lib.hid (HB1.out.trans (hb2.mono hz1)); clear hb2
  have hz2 := HB2.out.size
  go_wp2_with fail
  refine (HR.out _ HB2.out).mono ?_
  rintro e w3 ⟨v3, rfl, hr3, hb3⟩
  have HR3 := Lib.hid (hr3.mono hz2)
  have HB3 : Hid (Below w.heap.size w w3) := Lib.hid (HB2.out.trans (hb3.mono hz2)); clear hb3 hr3
  go_wp2
  go_ret2
  exact ⟨_, rfl, HR3.out, HB3.out⟩
theorem impl_RemainderPoly_no1 (q : Int) (v1 v2 : Value) (l1 l2 : List Int) (w : World) (hv1 : Sl w v1 l1) (hv2 : Sl w v2 l2) (hl1 : l1.length ≤ 1048576) (hl2 : l2.length ≤ 1048576) (hn : two2 q l1 l2 = false) :
    Calls Try.prog 21 #[.int .i64 q, v1, v2] w fun e w' => e = .returned (.tuple #[.slice none 0 0, .bool false]) ∧ Below w.heap.size w w' := by
  have HP := Lib.hid (validPolys_no q v1 v2 l1 l2 w hv1 hv2 hl1 hl2 hn)
  clear hv1 hv2 hn
  go_enter Try.func21, Try.ntmps21
  go_wp2_with fail
  refine HP.out.mono ?_
  rintro e w1 ⟨rfl, hb1⟩
  have HB1 := Lib.hid hb1; clear hb1
  go_wp2_with fail
  go_ret2
  have hb1 := HB1.out
  have hz1 := hb1.size
  exact ⟨rfl, by (repeat' (first | (with_reducible assumption) | (with_reducible exact Below.refl _ _) | (with_reducible refine below_drewN ?_ _) | (with_reducible refine Below.drew ?_) | (with_reducible refine Below.alloc ?_ ?_ _) | (with_reducible refine Below.setCell ?_ ?_ _) | (with_reducible refine Below.trans ?_ (Below.mono (by assumption) ?_)) | (with_reducible exact Nat.le_refl _) | (with_reducible assumption) | omega | (simp; omega) | (simp; done)))⟩
theorem impl_RemainderPoly_no2 (m : Nat) (v1 v2 : Value) (l1 : List Int) (w : World) (h : isSz (m : Int) = true) (hv1 : Sl w v1 l1) (hv2 : Sl w v2 []) (hg1 : good (m : Int) l1 = true) (hg2 : good (m : Int) [] = true) :
    Calls Try.prog 21 #[.int .i64 m, v1, v2] w fun e w' => e = .returned (.tuple #[.slice none 0 0, .bool false]) ∧ Below w.heap.size w w' := by
  have HP := Lib.hid (validPolys_yes (m : Int) v1 v2 l1 [] w h hv1 hv2 hg1 hg2)
  have HZ := Lib.hid (fun g w => isZeroP (m : Int) g 0 0 w)
  clear h hv1 hv2 hg1 hg2
  go_enter Try.func21, Try.ntmps21
  go_wp2_with fail
  refine HP.out.mono ?_
  rintro e w1 ⟨g1, g2, rfl, hg1, hg2, he1, he2, hb1⟩
  have HB1 := Lib.hid hb1; clear hb1 he1 he2
  go_wp2_with fail
  refine (HZ.out g2 _).mono ?_
  rintro e w2 ⟨rfl, hb2⟩
  have HB2 : Hid (Below w1.heap.size w1 w2) := Lib.hid (by (repeat' (first | (with_reducible assumption) | (with_reducible exact Below.refl _ _) | (with_reducible refine below_drewN ?_ _) | (with_reducible refine Below.drew ?_) | (with_reducible refine Below.alloc ?_ ?_ _) | (with_reducible refine Below.setCell ?_ ?_ _) | (with_reducible refine Below.trans ?_ (Below.mono (by assumption) ?_)) | (with_reducible exact Nat.le_refl _) | (with_reducible assumption) | omega | (simp; omega) | (simp; done)))); clear hb2
  go_wp2_with fail
  go_ret2
  have hb1 := HB1.out
  have hz1 := hb1.size
  have hb2 := HB2.out
  exact ⟨rfl, by (repeat' (first | (with_reducible assumption) | (with_reducible exact Below.refl _ _) | (with_reducible refine below_drewN ?_ _) | (with_reducible refine Below.drew ?_) | (with_reducible refine Below.alloc ?_ ?_ _) | (with_reducible refine Below.setCell ?_ ?_ _) | (with_reducible refine Below.trans ?_ (Below.mono (by assumption) ?_)) | (with_reducible exact Nat.le_refl _) | (with_reducible assumption) | omega | (simp; omega) | (simp; done)))⟩
theorem impl_RemainderPoly_no (q : Int) (v1 v2 : Value) (l1 l2 : List Int) (w : World) (hv1 : Sl w v1 l1) (hv2 : Sl w v2 l2) (hl1 : l1.length ≤ 1048576) (hl2 : l2.length ≤ 1048576) (hn : rok q l1 l2 = false) :
    Calls Try.prog 21 #[.int .i64 q, v1, v2] w fun e w' => e = .returned (.tuple #[.slice none 0 0, .bool false]) ∧ Below w.heap.size w w' := by
  cases h2 : two2 q l1 l2 with
  | false => exact impl_RemainderPoly_no1 q v1 v2 l1 l2 w hv1 hv2 hl1 hl2 h2
  | true =>
    unfold rok at hn
    rw [h2, Bool.true_and, decide_eq_false_iff_not] at hn
    have e : l2 = [] := List.eq_nil_of_length_eq_zero (by omega)
    subst e
    obtain ⟨m, rfl, hs, hg1, hg2⟩ := two2_nat h2
    exact impl_RemainderPoly_no2 m v1 v2 l1 w hs hv1 hv2 hg1 hg2
set_option maxRecDepth 100000 in
set_option maxHeartbeats 4000000 in
theorem impl_RemainderPoly_yes (m : Nat) (v1 v2 : Value) (l1 l2 : List Int) (w : World) (h : isSz (m : Int) = true) (hv1 : Sl w v1 l1) (hv2 : Sl w v2 l2) (hg1 : good (m : Int) l1 = true) (hg2 : good (m : Int) l2 = true) (h0 : 0 < l2.length) :
    Calls Try.prog 21 #[.int .i64 m, v1, v2] w fun e w' => ∃ v', e = .returned (.tuple #[v', .bool true]) ∧ Row w' w.heap.size v' (remL m l1 l2) ∧ Below w.heap.size w w' := by
  have hq := isSz_le (m : Int) h
  have hp1 := pg_good h hg1
  have hp2 := pg_good h hg2
  have hle1 := hp1.le
  have hle2 := hp2.le
  have hrp := (remL_pg h hp1 hp2 h0).1
  have HP : Hid (Calls Try.prog 28 #[.int .i64 m, v1, v2] w fun e w' => ∃ g1 g2, e = .returned (.tuple #[polyE (m : Int) (.slice (some ⟨g1, 0, none⟩) l1.length l1.length), polyE (m : Int) (.slice (some ⟨g2, 0, none⟩) l2.length l2.length), .bool true]) ∧ g1 < w'.heap.size ∧ g2 < w'.heap.size ∧ Els w' g1 (m : Int) (cfs l1) l1.length ∧ Els w' g2 (m : Int) (cfs l2) l2.length ∧ Below w.heap.size w w') := Lib.hid (validPolys_yes (m : Int) v1 v2 l1 l2 w h hv1 hv2 hg1 hg2)
  have HZ := Lib.hid (fun g w => isZeroP (m : Int) g l2.length l2.length w)
  rw [decide_eq_false (by omega)] at HZ
  have HRM : Hid (∀ g1 g2 w', g1 < w'.heap.size → g2 < w'.heap.size → Els w' g1 (m : Int) (cfs l1) l1.length → Els w' g2 (m : Int) (cfs l2) l2.length → Calls Try.prog 39 #[polyE (m : Int) (.slice (some ⟨g1, 0, none⟩) l1.length l1.length), polyE (m : Int) (.slice (some ⟨g2, 0, none⟩) l2.length l2.length)] w' fun e w'' => ∃ g' cap', e = .returned (polyE (m : Int) (.slice (some ⟨g', 0, none⟩) (remL m l1 l2).length cap')) ∧ w'.heap.size ≤ g' ∧ g' < w''.heap.size ∧ Els w'' g' (m : Int) (cfs (remL m l1 l2)) (remL m l1 l2).length ∧ Below w'.heap.size w' w'') := Lib.hid fun g1 g2 w' hg1 hg2 he1 he2 =>
    remainderE m l1.length l2.length g1 l1.length g2 l2.length (cfs l1) (cfs l2) w' h hg1 he1 hp1.el (by omega) hg2 he2 hp2.el h0 (by omega) (pg_top hp2 h0)
  have HNB : Hid (∀ g cap w', g < w'.heap.size → Els w' g (m : Int) (cfs (remL m l1 l2)) (remL m l1 l2).length → Calls Try.prog 26 #[polyE (m : Int) (.slice (some ⟨g, 0, none⟩) (remL m l1 l2).length cap)] w' fun e w'' => ∃ v', e = .returned v' ∧ Row w'' w'.heap.size v' (remL m l1 l2) ∧ Below w'.heap.size w' w'') := Lib.hid fun g cap w' hg he => by
    have hl := hrp.le
    have := numbersE (m : Int) (.slice (some ⟨g, 0, none⟩) (remL m l1 l2).length cap) (cfs (remL m l1 l2)) _ w' h ⟨g, cap, rfl, hg, he⟩ (fun i _ => hrp.el i) (by omega)
    rw [← fl_of (remL m l1 l2)] at this
    exact this
  clear h hv1 hv2 hg1 hg2 hp1 hp2 hrp hle1 hle2
  generalize remL (m : Int) l1 l2 = r at *
  generalize cfs l1 = f1 at *
  generalize cfs l2 = f2 at *
  generalize l1.length = n1 at *
  generalize l2.length = n2 at *
  go_enter Try.func21, Try.ntmps21
  go_wp2_with fail
  refine HP.out.mono ?_
  rintro e w1 ⟨g1, g2, rfl, hg1, hg2, he1, he2, hb1⟩
  have HE1 := Lib.hid he1
  have HE2 := Lib.hid he2
  have HB1 := Lib.hid hb1; clear hb1 he1 he2
  go_wp2_with fail
  refine (HZ.out g2 _).mono ?_
  rintro e w2 ⟨rfl, hb2⟩
  have hzw2 := hb2.size
  simp at hzw2
  have HT := Lib.hid (two w1 (pblk (m : Int) (.slice (some ⟨g1, 0, none⟩) n1 n1)) (pblk (m : Int) (.slice (some ⟨g2, 0, none⟩) n2 n2)))
  obtain ⟨x0, x1, x2, x3, _⟩ := cells4 ((hb2.block w1.heap.size (by simp; omega)).trans HT.out.1)
  obtain ⟨y0, y1, y2, y3, _⟩ := cells4 ((hb2.block (w1.heap.size + 1) (by simp)).trans HT.out.2)
  have HB2 : Hid (Below w1.heap.size w1 w2) := Lib.hid (by (repeat' (first | (with_reducible assumption) | (with_reducible exact Below.refl _ _) | (with_reducible refine below_drewN ?_ _) | (with_reducible refine Below.drew ?_) | (with_reducible refine Below.alloc ?_ ?_ _) | (with_reducible refine Below.setCell ?_ ?_ _) | (with_reducible refine Below.trans ?_ (Below.mono (by assumption) ?_)) | (with_reducible exact Nat.le_refl _) | (with_reducible assumption) | omega | (simp; omega) | (simp; done))))
  clear hb2
  go_wp2_with fail
  refine (HRM.out g1 g2 _ (by omega) (by omega) (HE1.out.below HB2.out hg1) (HE2.out.below HB2.out hg2)).mono ?_
  rintro e w3 ⟨g3, cp3, rfl, hlo3, hg3, he3, hb3⟩
  have HE3 := Lib.hid he3
  have HB3 := Lib.hid hb3; clear hb3 he3
  go_wp2_with fail
  refine (HNB.out g3 cp3 _ hg3 HE3.out).mono ?_
  rintro e w4 ⟨v4, rfl, hr4, hb4⟩
  have HR4 := Lib.hid hr4
  have HB4 := Lib.hid hb4; clear hb4 hr4
  go_wp2
  go_ret2
  have hb1 := HB1.out
  have hz1 := hb1.size
  have hb2 := HB2.out
  have hz2 := hb2.size
  have hb3 := HB3.out
  have hz3 := hb3.size
  have hb4 := HB4.out
  exact ⟨_, rfl, HR4.out.mono (by omega), by (repeat' (first | (with_reducible assumption) | (with_reducible exact Below.refl _ _) | (with_reducible refine below_drewN ?_ _) | (with_reducible refine Below.drew ?_) | (with_reducible refine Below.alloc ?_ ?_ _) | (with_reducible refine Below.setCell ?_ ?_ _) | (with_reducible refine Below.trans ?_ (Below.mono (by assumption) ?_)) | (with_reducible exact Nat.le_refl _) | (with_reducible assumption) | omega | (simp; omega) | (simp; done)))⟩
theorem key_RemainderPoly (q : Int) (l_f : List Int) (b_f : l_f.length ≤ 1048576) (l_g : List Int) (b_g : l_g.length ≤ 1048576) : ∃ (r : List Int) (o : Bool), r.length ≤ 1048576 ∧ (∀ (w : World) (v_f : Value) (_ : Sl w v_f l_f) (v_g : Value) (_ : Sl w v_g l_g), Calls Try.prog 20 #[.int .i64 q, v_f, v_g] w fun e w' => ∃ v, e = .returned (.tuple #[v, .bool o]) ∧ Row w' w.heap.size v r ∧ Below w.heap.size w w') ∧
      (∀ (w : World) (v_f : Value) (_ : Sl w v_f l_f) (v_g : Value) (_ : Sl w v_g l_g), Calls Try.prog 21 #[.int .i64 q, v_f, v_g] w fun e w' => ∃ v, e = .returned (.tuple #[v, .bool o]) ∧ Row w' w.heap.size v r ∧ Below w.heap.size w w') := by
  cases h : rok q l_f l_g with
  | false => exact ⟨[], false, by simp, fun w v1 hv1 v2 hv2 => (spec_RemainderPoly_no q v1 v2 l_f l_g w hv1 hv2 b_f b_g h).mono fun _ _ ⟨he, hb⟩ => ⟨_, he, Row.nil _ _, hb⟩, fun w v1 hv1 v2 hv2 => (impl_RemainderPoly_no q v1 v2 l_f l_g w hv1 hv2 b_f b_g h).mono fun _ _ ⟨he, hb⟩ => ⟨_, he, Row.nil _ _, hb⟩⟩
  | true =>
    simp only [rok, Bool.and_eq_true, decide_eq_true_eq] at h
    obtain ⟨m, rfl, hs, hg1, hg2⟩ := two2_nat h.1
    have hq := isSz_le (m : Int) hs
    have hl := (remL_pg hs (pg_good hs hg1) (pg_good hs hg2) h.2).1.le
    exact ⟨_, true, by omega, fun w v1 hv1 v2 hv2 => spec_RemainderPoly_yes m v1 v2 l_f l_g w hs hv1 hv2 hg1 hg2 h.2, fun w v1 hv1 v2 hv2 => impl_RemainderPoly_yes m v1 v2 l_f l_g w hs hv1 hv2 hg1 hg2 h.2⟩
set_option maxRecDepth 100000 in
set_option maxHeartbeats 4000000 in
/-- laws.FnExactRemainderPoly. -/
theorem walk_FnExactRemainderPoly (q : Int) (a_f : Option Addr) (n_f c_f : Nat) (z_f : List Int) (a_g : Option Addr) (n_g c_g : Nat) (z_g : List Int) (w : World) (_h_q : (Lit.int .i64 q).wf = true) (h_f : IsRow .i64 w a_f n_f c_f z_f) (h_g : IsRow .i64 w a_g n_g c_g z_g) :
    Calls Try.prog 7 #[.int .i64 q, .slice a_f n_f c_f, .slice a_g n_g c_g] w fun e w' => e = .returned (.bool true) ∧ Below w.heap.size w w' := by
  clear _h_q
  obtain ⟨hs_f, hl_f, _⟩ := h_f.sl
  generalize z_f.take n_f = l_f at *
  clear h_f
  subst hl_f
  obtain ⟨hs_g, hl_g, _⟩ := h_g.sl
  generalize z_g.take n_g = l_g at *
  clear h_g
  subst hl_g
  by_cases b_f : l_f.length ≤ 1048576
  rotate_left
  · have hn_f : (1048576 : Int) < (l_f.length : Int) := by omega
    go_enter Try.func7, Try.ntmps7
    go_wp2
    go_ret
    exact ⟨rfl, Below.refl _ _⟩
  by_cases b_g : l_g.length ≤ 1048576
  rotate_left
  · have hn_g : (1048576 : Int) < (l_g.length : Int) := by omega
    have hn_f : ¬ (1048576 : Int) < (l_f.length : Int) := by omega
    go_enter Try.func7, Try.ntmps7
    go_wp2
    go_ret
    exact ⟨rfl, Below.refl _ _⟩
  have hn_f : ¬ (1048576 : Int) < (l_f.length : Int) := by omega
  have hn_g : ¬ (1048576 : Int) < (l_g.length : Int) := by omega
  obtain ⟨r, o, hr, k1, k2⟩ := key_RemainderPoly q l_f b_f l_g b_g
  have K1 := Lib.hid k1; clear k1
  have K2 := Lib.hid k2; clear k2
  have HS_f := Lib.hid hs_f; clear hs_f
  have HS_g := Lib.hid hs_g; clear hs_g
  have HB0 : Hid (Below w.heap.size w w) := Lib.hid (Below.refl _ _)
  go_enter Try.func7, Try.ntmps7
  go_wp2_with fail
  refine (toIntS_any _ l_f _ (HS_f.out.below HB0.out (Nat.le_refl _)) b_f).mono ?_
  rintro e w1 ⟨v_s_f, rfl, hrw1, hbw1⟩
  have hzw1 : w.heap.size ≤ w1.heap.size := hbw1.size
  have HBw1 : Hid (Below w.heap.size w w1) := Lib.hid (HB0.out.trans (hbw1.mono HB0.out.size))
  have hww1 := HBw1.out.size
  clear hbw1 HB0
  have R_s_f_w1 := Lib.hid hrw1; clear hrw1
  have lt_s_f : Hid (∀ g, v_s_f.ownBlock = some g → w.heap.size ≤ g ∧ g < w1.heap.size) := Lib.hid R_s_f_w1.out.lt
  go_wp2_with fail
  refine (toIntS_any _ l_g _ (HS_g.out.below HBw1.out (Nat.le_refl _)) b_g).mono ?_
  rintro e w2 ⟨v_s_g, rfl, hrw2, hbw2⟩
  have hzw2 : w1.heap.size ≤ w2.heap.size := hbw2.size
  have R_s_f_w2 := Lib.hid (R_s_f_w1.out.below hbw2)
  clear R_s_f_w1
  have HBw2 : Hid (Below w.heap.size w w2) := Lib.hid (HBw1.out.trans (hbw2.mono HBw1.out.size))
  have hww2 := HBw2.out.size
  clear hbw2 HBw1
  have R_s_g_w2 := Lib.hid hrw2; clear hrw2
  have lt_s_g : Hid (∀ g, v_s_g.ownBlock = some g → w1.heap.size ≤ g ∧ g < w2.heap.size) := Lib.hid R_s_g_w2.out.lt
  go_wp2_with fail
  refine (K1.out _ v_s_f R_s_f_w2.out.sl v_s_g R_s_g_w2.out.sl).mono ?_
  rintro e w3 ⟨v_sp, rfl, hrw3, hbw3⟩
  have hzw3 : w2.heap.size ≤ w3.heap.size := hbw3.size
  have R_s_f_w3 := Lib.hid (R_s_f_w2.out.below hbw3)
  clear R_s_f_w2
  have R_s_g_w3 := Lib.hid (R_s_g_w2.out.below hbw3)
  clear R_s_g_w2
  have HBw3 : Hid (Below w.heap.size w w3) := Lib.hid (HBw2.out.trans (hbw3.mono HBw2.out.size))
  have hww3 := HBw3.out.size
  clear hbw3 HBw2
  have R_sp_w3 := Lib.hid hrw3; clear hrw3
  have lt_sp : Hid (∀ g, v_sp.ownBlock = some g → w2.heap.size ≤ g ∧ g < w3.heap.size) := Lib.hid R_sp_w3.out.lt
  clear R_s_f_w3 lt_s_f
  clear R_s_g_w3 lt_s_g
  go_wp2_with fail
  refine (toIntS_any _ l_f _ (HS_f.out.below HBw3.out (Nat.le_refl _)) b_f).mono ?_
  rintro e w4 ⟨v_x_f, rfl, hrw4, hbw4⟩
  have hzw4 : w3.heap.size ≤ w4.heap.size := hbw4.size
  have R_sp_w4 := Lib.hid (R_sp_w3.out.below hbw4)
  clear R_sp_w3
  have HBw4 : Hid (Below w.heap.size w w4) := Lib.hid (HBw3.out.trans (hbw4.mono HBw3.out.size))
  have hww4 := HBw4.out.size
  clear hbw4 HBw3
  have R_x_f_w4 := Lib.hid hrw4; clear hrw4
  have lt_x_f : Hid (∀ g, v_x_f.ownBlock = some g → w3.heap.size ≤ g ∧ g < w4.heap.size) := Lib.hid R_x_f_w4.out.lt
  go_wp2_with fail
  refine (toIntS_any _ l_g _ (HS_g.out.below HBw4.out (Nat.le_refl _)) b_g).mono ?_
  rintro e w5 ⟨v_x_g, rfl, hrw5, hbw5⟩
  have hzw5 : w4.heap.size ≤ w5.heap.size := hbw5.size
  have R_sp_w5 := Lib.hid (R_sp_w4.out.below hbw5)
  clear R_sp_w4
  have R_x_f_w5 := Lib.hid (R_x_f_w4.out.below hbw5)
  clear R_x_f_w4
  have HBw5 : Hid (Below w.heap.size w w5) := Lib.hid (HBw4.out.trans (hbw5.mono HBw4.out.size))
  have hww5 := HBw5.out.size
  clear hbw5 HBw4
  have R_x_g_w5 := Lib.hid hrw5; clear hrw5
  have lt_x_g : Hid (∀ g, v_x_g.ownBlock = some g → w4.heap.size ≤ g ∧ g < w5.heap.size) := Lib.hid R_x_g_w5.out.lt
  go_wp2_with fail
  refine (K2.out _ v_x_f R_x_f_w5.out.sl v_x_g R_x_g_w5.out.sl).mono ?_
  rintro e w6 ⟨v_im, rfl, hrw6, hbw6⟩
  have hzw6 : w5.heap.size ≤ w6.heap.size := hbw6.size
  have R_sp_w6 := Lib.hid (R_sp_w5.out.below hbw6)
  clear R_sp_w5
  have R_x_f_w6 := Lib.hid (R_x_f_w5.out.below hbw6)
  clear R_x_f_w5
  have R_x_g_w6 := Lib.hid (R_x_g_w5.out.below hbw6)
  clear R_x_g_w5
  have HBw6 : Hid (Below w.heap.size w w6) := Lib.hid (HBw5.out.trans (hbw6.mono HBw5.out.size))
  have hww6 := HBw6.out.size
  clear hbw6 HBw5
  have R_im_w6 := Lib.hid hrw6; clear hrw6
  have lt_im : Hid (∀ g, v_im.ownBlock = some g → w5.heap.size ≤ g ∧ g < w6.heap.size) := Lib.hid R_im_w6.out.lt
  go_wp2_with fail
  refine (eq_same v_im v_sp r _ _ _ R_im_w6.out R_sp_w6.out (by omega)).mono ?_
  rintro e w7 ⟨rfl, hbw7⟩
  have hzw7 : w6.heap.size ≤ w7.heap.size := hbw7.size
  have R_sp_w7 := Lib.hid (R_sp_w6.out.below hbw7)
  clear R_sp_w6
  have R_x_f_w7 := Lib.hid (R_x_f_w6.out.below hbw7)
  clear R_x_f_w6
  have R_x_g_w7 := Lib.hid (R_x_g_w6.out.below hbw7)
  clear R_x_g_w6
  have R_im_w7 := Lib.hid (R_im_w6.out.below hbw7)
  clear R_im_w6
  have HBw7 : Hid (Below w.heap.size w w7) := Lib.hid (HBw6.out.trans (hbw7.mono HBw6.out.size))
  have hww7 := HBw7.out.size
  clear hbw7 HBw6
  go_wp2_with fail
  refine (toIntS_any _ l_f _ (HS_f.out.below HBw7.out (Nat.le_refl _)) b_f).mono ?_
  rintro e w8 ⟨v_y_f, rfl, hrw8, hbw8⟩
  have hzw8 : w7.heap.size ≤ w8.heap.size := hbw8.size
  have R_sp_w8 := Lib.hid (R_sp_w7.out.below hbw8)
  clear R_sp_w7
  have R_x_f_w8 := Lib.hid (R_x_f_w7.out.below hbw8)
  clear R_x_f_w7
  have R_x_g_w8 := Lib.hid (R_x_g_w7.out.below hbw8)
  clear R_x_g_w7
  have R_im_w8 := Lib.hid (R_im_w7.out.below hbw8)
  clear R_im_w7
  have HBw8 : Hid (Below w.heap.size w w8) := Lib.hid (HBw7.out.trans (hbw8.mono HBw7.out.size))
  have hww8 := HBw8.out.size
  clear hbw8 HBw7
  have R_y_f_w8 := Lib.hid hrw8; clear hrw8
  have lt_y_f : Hid (∀ g, v_y_f.ownBlock = some g → w7.heap.size ≤ g ∧ g < w8.heap.size) := Lib.hid R_y_f_w8.out.lt
  go_wp2_with fail
  refine (eq_same v_x_f v_y_f l_f _ _ _ R_x_f_w8.out R_y_f_w8.out (by omega)).mono ?_
  rintro e w9 ⟨rfl, hbw9⟩
  have hzw9 : w8.heap.size ≤ w9.heap.size := hbw9.size
  have R_sp_w9 := Lib.hid (R_sp_w8.out.below hbw9)
  clear R_sp_w8
  have R_x_f_w9 := Lib.hid (R_x_f_w8.out.below hbw9)
  clear R_x_f_w8
  have R_x_g_w9 := Lib.hid (R_x_g_w8.out.below hbw9)
  clear R_x_g_w8
  have R_im_w9 := Lib.hid (R_im_w8.out.below hbw9)
  clear R_im_w8
  have R_y_f_w9 := Lib.hid (R_y_f_w8.out.below hbw9)
  clear R_y_f_w8
  have HBw9 : Hid (Below w.heap.size w w9) := Lib.hid (HBw8.out.trans (hbw9.mono HBw8.out.size))
  have hww9 := HBw9.out.size
  clear hbw9 HBw8
  clear R_y_f_w9 lt_y_f
  go_wp2_with fail
  refine (toIntS_any _ l_g _ (HS_g.out.below HBw9.out (Nat.le_refl _)) b_g).mono ?_
  rintro e w10 ⟨v_y_g, rfl, hrw10, hbw10⟩
  have hzw10 : w9.heap.size ≤ w10.heap.size := hbw10.size
  have R_sp_w10 := Lib.hid (R_sp_w9.out.below hbw10)
  clear R_sp_w9
  have R_x_f_w10 := Lib.hid (R_x_f_w9.out.below hbw10)
  clear R_x_f_w9
  have R_x_g_w10 := Lib.hid (R_x_g_w9.out.below hbw10)
  clear R_x_g_w9
  have R_im_w10 := Lib.hid (R_im_w9.out.below hbw10)
  clear R_im_w9
  have HBw10 : Hid (Below w.heap.size w w10) := Lib.hid (HBw9.out.trans (hbw10.mono HBw9.out.size))
  have hww10 := HBw10.out.size
  clear hbw10 HBw9
  have R_y_g_w10 := Lib.hid hrw10; clear hrw10
  have lt_y_g : Hid (∀ g, v_y_g.ownBlock = some g → w9.heap.size ≤ g ∧ g < w10.heap.size) := Lib.hid R_y_g_w10.out.lt
  go_wp2_with fail
  refine (eq_same v_x_g v_y_g l_g _ _ _ R_x_g_w10.out R_y_g_w10.out (by omega)).mono ?_
  rintro e w11 ⟨rfl, hbw11⟩
  have hzw11 : w10.heap.size ≤ w11.heap.size := hbw11.size
  have R_sp_w11 := Lib.hid (R_sp_w10.out.below hbw11)
  clear R_sp_w10
  have R_x_f_w11 := Lib.hid (R_x_f_w10.out.below hbw11)
  clear R_x_f_w10
  have R_x_g_w11 := Lib.hid (R_x_g_w10.out.below hbw11)
  clear R_x_g_w10
  have R_im_w11 := Lib.hid (R_im_w10.out.below hbw11)
  clear R_im_w10
  have R_y_g_w11 := Lib.hid (R_y_g_w10.out.below hbw11)
  clear R_y_g_w10
  have HBw11 : Hid (Below w.heap.size w w11) := Lib.hid (HBw10.out.trans (hbw11.mono HBw10.out.size))
  have hww11 := HBw11.out.size
  clear hbw11 HBw10
  clear R_y_g_w11 lt_y_g
  go_wp2_with fail
  refine (mark_any v_x_f l_f _ (1) _ R_x_f_w11.out (by omega) (by omega) (by omega)).mono ?_
  rintro e w12 ⟨rfl, hrw12, hgw12⟩
  have hzw12 : w11.heap.size ≤ w12.heap.size := hgw12.size
  have R_sp_w12 := Lib.hid (R_sp_w11.out.keep (w' := w12) fun g hg => hgw12.block g (R_sp_w11.out.lt g hg).2 fun e => by have h1 := lt_sp.out g hg; have h2 := lt_x_f.out g e.symm; omega)
  clear R_sp_w11
  have R_x_g_w12 := Lib.hid (R_x_g_w11.out.keep (w' := w12) fun g hg => hgw12.block g (R_x_g_w11.out.lt g hg).2 fun e => by have h1 := lt_x_g.out g hg; have h2 := lt_x_f.out g e.symm; omega)
  clear R_x_g_w11
  have R_im_w12 := Lib.hid (R_im_w11.out.keep (w' := w12) fun g hg => hgw12.block g (R_im_w11.out.lt g hg).2 fun e => by have h1 := lt_im.out g hg; have h2 := lt_x_f.out g e.symm; omega)
  clear R_im_w11
  have HBw12 : Hid (Below w.heap.size w w12) := Lib.hid (Below.grown HBw11.out hgw12 (by omega) (fun g e => by have h2 := lt_x_f.out g e; omega))
  have hww12 := HBw12.out.size
  have R_x_f_w12 := Lib.hid hrw12
  clear hrw12 hgw12 HBw11 R_x_f_w11
  go_wp2_with fail
  refine (mark_big v_x_g l_g _ (1 + (l_f.length : Int)) _ R_x_g_w12.out (by omega) (by omega) (by omega)).mono ?_
  rintro e w13 ⟨rfl, hrw13, hgw13⟩
  have hzw13 : w12.heap.size ≤ w13.heap.size := hgw13.size
  have R_sp_w13 := Lib.hid (R_sp_w12.out.keep (w' := w13) fun g hg => hgw13.block g (R_sp_w12.out.lt g hg).2 fun e => by have h1 := lt_sp.out g hg; have h2 := lt_x_g.out g e.symm; omega)
  clear R_sp_w12
  have R_x_f_w13 := Lib.hid (R_x_f_w12.out.keep (w' := w13) fun g hg => hgw13.block g (R_x_f_w12.out.lt g hg).2 fun e => by have h1 := lt_x_f.out g hg; have h2 := lt_x_g.out g e.symm; omega)
  clear R_x_f_w12
  have R_im_w13 := Lib.hid (R_im_w12.out.keep (w' := w13) fun g hg => hgw13.block g (R_im_w12.out.lt g hg).2 fun e => by have h1 := lt_im.out g hg; have h2 := lt_x_g.out g e.symm; omega)
  clear R_im_w12
  have HBw13 : Hid (Below w.heap.size w w13) := Lib.hid (Below.grown HBw12.out hgw13 (by omega) (fun g e => by have h2 := lt_x_g.out g e; omega))
  have hww13 := HBw13.out.size
  have R_x_g_w13 := Lib.hid hrw13
  clear hrw13 hgw13 HBw12 R_x_g_w12
  clear R_x_f_w13 lt_x_f
  clear R_x_g_w13 lt_x_g
  have hpos : ¬ (1 + (l_f.length : Int) + (l_g.length : Int)) < (0 : Int) := by omega
  go_wp2_with fail
  refine (eq_same v_im v_sp r _ _ _ R_im_w13.out R_sp_w13.out (by omega)).mono ?_
  rintro e w14 ⟨rfl, hbw14⟩
  have hzw14 : w13.heap.size ≤ w14.heap.size := hbw14.size
  have R_sp_w14 := Lib.hid (R_sp_w13.out.below hbw14)
  clear R_sp_w13
  have R_im_w14 := Lib.hid (R_im_w13.out.below hbw14)
  clear R_im_w13
  have HBw14 : Hid (Below w.heap.size w w14) := Lib.hid (HBw13.out.trans (hbw14.mono HBw13.out.size))
  have hww14 := HBw14.out.size
  clear hbw14 HBw13
  go_wp2_with fail
  refine (mark_any v_im r _ (1) _ R_im_w14.out (by omega) (by omega) (by omega)).mono ?_
  rintro e w15 ⟨rfl, hrw15, hgw15⟩
  have hzw15 : w14.heap.size ≤ w15.heap.size := hgw15.size
  have R_sp_w15 := Lib.hid (R_sp_w14.out.keep (w' := w15) fun g hg => hgw15.block g (R_sp_w14.out.lt g hg).2 fun e => by have h1 := lt_sp.out g hg; have h2 := lt_im.out g e.symm; omega)
  clear R_sp_w14
  have HBw15 : Hid (Below w.heap.size w w15) := Lib.hid (Below.grown HBw14.out hgw15 (by omega) (fun g e => by have h2 := lt_im.out g e; omega))
  have hww15 := HBw15.out.size
  have R_im_w15 := Lib.hid hrw15
  clear hrw15 hgw15 HBw14 R_im_w14
  go_wp2_with fail
  refine (held_any v_im r.length _ (1) _ R_im_w15.out (by omega) (by omega) (by omega)).mono ?_
  rintro e wx1 ⟨rfl, rfl⟩
  go_wp2_with fail
  refine (toIntS_any _ l_f _ (HS_f.out.below HBw15.out (Nat.le_refl _)) b_f).mono ?_
  rintro e w16 ⟨v_t_f, rfl, hrw16, hbw16⟩
  have hzw16 : w15.heap.size ≤ w16.heap.size := hbw16.size
  have R_sp_w16 := Lib.hid (R_sp_w15.out.below hbw16)
  clear R_sp_w15
  have R_im_w16 := Lib.hid (R_im_w15.out.below hbw16)
  clear R_im_w15
  have HBw16 : Hid (Below w.heap.size w w16) := Lib.hid (HBw15.out.trans (hbw16.mono HBw15.out.size))
  have hww16 := HBw16.out.size
  clear hbw16 HBw15
  have R_t_f_w16 := Lib.hid hrw16; clear hrw16
  have lt_t_f : Hid (∀ g, v_t_f.ownBlock = some g → w15.heap.size ≤ g ∧ g < w16.heap.size) := Lib.hid R_t_f_w16.out.lt
  go_wp2_with fail
  refine (toIntS_any _ l_g _ (HS_g.out.below HBw16.out (Nat.le_refl _)) b_g).mono ?_
  rintro e w17 ⟨v_t_g, rfl, hrw17, hbw17⟩
  have hzw17 : w16.heap.size ≤ w17.heap.size := hbw17.size
  have R_sp_w17 := Lib.hid (R_sp_w16.out.below hbw17)
  clear R_sp_w16
  have R_im_w17 := Lib.hid (R_im_w16.out.below hbw17)
  clear R_im_w16
  have R_t_f_w17 := Lib.hid (R_t_f_w16.out.below hbw17)
  clear R_t_f_w16
  have HBw17 : Hid (Below w.heap.size w w17) := Lib.hid (HBw16.out.trans (hbw17.mono HBw16.out.size))
  have hww17 := HBw17.out.size
  clear hbw17 HBw16
  have R_t_g_w17 := Lib.hid hrw17; clear hrw17
  have lt_t_g : Hid (∀ g, v_t_g.ownBlock = some g → w16.heap.size ≤ g ∧ g < w17.heap.size) := Lib.hid R_t_g_w17.out.lt
  go_wp2_with fail
  refine (K2.out _ v_t_f R_t_f_w17.out.sl v_t_g R_t_g_w17.out.sl).mono ?_
  rintro e w18 ⟨v_im2, rfl, hrw18, hbw18⟩
  have hzw18 : w17.heap.size ≤ w18.heap.size := hbw18.size
  have R_sp_w18 := Lib.hid (R_sp_w17.out.below hbw18)
  clear R_sp_w17
  have R_im_w18 := Lib.hid (R_im_w17.out.below hbw18)
  clear R_im_w17
  have R_t_f_w18 := Lib.hid (R_t_f_w17.out.below hbw18)
  clear R_t_f_w17
  have R_t_g_w18 := Lib.hid (R_t_g_w17.out.below hbw18)
  clear R_t_g_w17
  have HBw18 : Hid (Below w.heap.size w w18) := Lib.hid (HBw17.out.trans (hbw18.mono HBw17.out.size))
  have hww18 := HBw18.out.size
  clear hbw18 HBw17
  have R_im2_w18 := Lib.hid hrw18; clear hrw18
  have lt_im2 : Hid (∀ g, v_im2.ownBlock = some g → w17.heap.size ≤ g ∧ g < w18.heap.size) := Lib.hid R_im2_w18.out.lt
  clear R_t_f_w18 lt_t_f
  clear R_t_g_w18 lt_t_g
  go_wp2_with fail
  refine (eq_same v_im2 v_sp r _ _ _ R_im2_w18.out R_sp_w18.out (by omega)).mono ?_
  rintro e w19 ⟨rfl, hbw19⟩
  have hzw19 : w18.heap.size ≤ w19.heap.size := hbw19.size
  have R_sp_w19 := Lib.hid (R_sp_w18.out.below hbw19)
  clear R_sp_w18
  have R_im_w19 := Lib.hid (R_im_w18.out.below hbw19)
  clear R_im_w18
  have R_im2_w19 := Lib.hid (R_im2_w18.out.below hbw19)
  clear R_im2_w18
  have HBw19 : Hid (Below w.heap.size w w19) := Lib.hid (HBw18.out.trans (hbw19.mono HBw18.out.size))
  have hww19 := HBw19.out.size
  clear hbw19 HBw18
  go_wp2_with fail
  refine (held_any v_im r.length _ (1) _ R_im_w19.out (by omega) (by omega) (by omega)).mono ?_
  rintro e wx2 ⟨rfl, rfl⟩
  go_wp2
  go_ret
  exact ⟨rfl, HBw19.out⟩
end Go.Proofs.Ytlhcokblbkiafab
