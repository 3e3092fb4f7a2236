/- Values, their places, and moments: the model's functions, by contracts. -/
import Derived.Test.YtnmdcmbcackchaaOB
import Derived.Test.YtnmdcmbcackchaaKL
import Derived.Test.YtnmdcmbcackchaaLF
namespace Go.Proofs.Ytnmdcmbcackchaa
open Go.RowKit
theorem spec_ValuesOf_no (q : Int) (v : Value) (l : List Int) (w : World) (hv : Sl w v l) (hl : l.length ≤ 1048576) (hg : (isSz q && good q l) = false) :
    Calls Try.prog 13 #[.int .i64 q, v] w fun e w' => e = .returned (.tuple #[.slice none 0 0, .bool false]) ∧ Below w.heap.size w w' := by
  have hp := plGood_any q v l w hv hl
  rw [hg] at hp
  have HP := Lib.hid hp
  clear hp hg hv hl
  go_enter Try.func13, Try.ntmps13
  go_wp2_with fail
  refine HP.out.mono ?_
  rintro e w1 ⟨rfl, hb1⟩
  go_wp2
  go_ret2
  exact ⟨rfl, hb1⟩
theorem spec_CountValues_no (q : Int) (v : Value) (l : List Int) (w : World) (hv : Sl w v l) (hl : l.length ≤ 1048576) (hg : (isSz q && good q l) = false) :
    Calls Try.prog 19 #[.int .i64 q, v] w fun e w' => e = .returned (.tuple #[.int .i64 0, .bool false]) ∧ Below w.heap.size w w' := by
  have hp := plGood_any q v l w hv hl
  rw [hg] at hp
  have HP := Lib.hid hp
  clear hp hg hv hl
  go_enter Try.func19, Try.ntmps19
  go_wp2_with fail
  refine HP.out.mono ?_
  rintro e w1 ⟨rfl, hb1⟩
  go_wp2
  go_ret2
  exact ⟨rfl, hb1⟩
theorem spec_PlaceCounts_no (q : Int) (v : Value) (l : List Int) (w : World) (hv : Sl w v l) (hl : l.length ≤ 1048576) (hg : (isSz q && good q l) = false) :
    Calls Try.prog 23 #[.int .i64 q, v] w fun e w' => e = .returned (.tuple #[.slice none 0 0, .bool false]) ∧ Below w.heap.size w w' := by
  have hp := plGood_any q v l w hv hl
  rw [hg] at hp
  have HP := Lib.hid hp
  clear hp hg hv hl
  go_enter Try.func23, Try.ntmps23
  go_wp2_with fail
  refine HP.out.mono ?_
  rintro e w1 ⟨rfl, hb1⟩
  go_wp2
  go_ret2
  exact ⟨rfl, hb1⟩
theorem spec_PairsAlike_no (q : Int) (v : Value) (l : List Int) (w : World) (hv : Sl w v l) (hl : l.length ≤ 1048576) (hg : (isSz q && good q l) = false) :
    Calls Try.prog 25 #[.int .i64 q, v] w fun e w' => e = .returned (.tuple #[.int .i64 0, .bool false]) ∧ Below w.heap.size w w' := by
  have hp := plGood_any q v l w hv hl
  rw [hg] at hp
  have HP := Lib.hid hp
  clear hp hg hv hl
  go_enter Try.func25, Try.ntmps25
  go_wp2_with fail
  refine HP.out.mono ?_
  rintro e w1 ⟨rfl, hb1⟩
  go_wp2
  go_ret2
  exact ⟨rfl, hb1⟩
theorem spec_IsTwoToOne_no (q : Int) (v : Value) (l : List Int) (w : World) (hv : Sl w v l) (hl : l.length ≤ 1048576) (hg : (isSz q && good q l) = false) :
    Calls Try.prog 31 #[.int .i64 q, v] w fun e w' => e = .returned (.tuple #[.bool false, .bool false]) ∧ Below w.heap.size w w' := by
  have hp := plGood_any q v l w hv hl
  rw [hg] at hp
  have HP := Lib.hid hp
  clear hp hg hv hl
  go_enter Try.func31, Try.ntmps31
  go_wp2_with fail
  refine HP.out.mono ?_
  rintro e w1 ⟨rfl, hb1⟩
  go_wp2
  go_ret2
  exact ⟨rfl, hb1⟩
theorem spec_FirstMoment_no (q : Int) (v : Value) (l : List Int) (w : World) (hv : Sl w v l) (hl : l.length ≤ 1048576) (hg : (isSz q && good q l) = false) :
    Calls Try.prog 29 #[.int .i64 q, v] w fun e w' => e = .returned (.tuple #[.int .i64 0, .bool false]) ∧ Below w.heap.size w w' := by
  have hp := plGood_any q v l w hv hl
  rw [hg] at hp
  have HP := Lib.hid hp
  clear hp hg hv hl
  go_enter Try.func29, Try.ntmps29
  go_wp2_with fail
  refine HP.out.mono ?_
  rintro e w1 ⟨rfl, hb1⟩
  go_wp2
  go_ret2
  exact ⟨rfl, hb1⟩
set_option maxRecDepth 100000 in
set_option maxHeartbeats 4000000 in
theorem spec_ValuesOf_yes (m : Nat) (v : Value) (l : List Int) (w : World) (h : isSz (m : Int) = true) (hv : Sl w v l) (hg : good (m : Int) l = true) :
    Calls Try.prog 13 #[.int .i64 m, v] w fun e w' => ∃ v', e = .returned (.tuple #[v', .bool true]) ∧ Row w' w.heap.size v' (wh (mt (tabF (m : Int) (fun i => l.getD i 0) l.length) m) m) ∧ Below w.heap.size w w' := by
  have hq := isSz_le (m : Int) h
  have hlen := (good_parts hg).1
  have hp := plGood_any (m : Int) v l w hv (by omega)
  rw [h, hg] at hp
  have HP := Lib.hid hp
  have HV := Lib.hid (fun w' (hb : Below w.heap.size w w') => plValues_any (m : Int) v l w' h (hv.below hb (Nat.le_refl _)) hg)
  have HTE := Lib.hid (fun i (hi : i < m) => tab_el (k := l.length) h (all_el h (good_parts hg).2) i hi)
  simp only [Int.toNat_natCast] at HV
  clear hp hg hv
  generalize tabF (m : Int) (fun i => l.getD i 0) l.length = t at *
  have HA := Lib.hid (fun v w (hs : Sl w v (fl t m)) => vaValues_any m m v t w (by omega) hs (fun i hi => HTE.out i hi) (by omega))
  clear h HTE
  go_enter Try.func13, Try.ntmps13
  go_wp2_with fail
  refine HP.out.mono ?_
  rintro e w1 ⟨rfl, hb1⟩
  have hz_hb1 := hb1.size; (try simp at hz_hb1)
  have HB1 := Lib.hid hb1; clear hb1
  go_wp2_with fail
  refine (HV.out _ HB1.out).mono ?_
  rintro e w3 ⟨v3, rfl, hr3, hb3⟩
  have HR3 := Lib.hid hr3
  have HB3 : Hid (Below w.heap.size w w3) := Lib.hid (HB1.out.trans (hb3.mono hz_hb1)); clear hb3 hr3
  go_wp2_with fail
  refine (HA.out _ _ HR3.out.sl).mono ?_
  rintro e w4 ⟨v4, rfl, hr4, hb4⟩
  have HR4 := Lib.hid hr4
  have HB4 : Hid (Below w.heap.size w w4) := Lib.hid (HB3.out.trans (hb4.mono HB3.out.size)); clear hb4 hr4
  go_wp2
  go_ret2
  exact ⟨_, rfl, HR4.out.mono HB3.out.size, HB4.out⟩
set_option maxRecDepth 100000 in
set_option maxHeartbeats 4000000 in
theorem spec_CountValues_yes (m : Nat) (v : Value) (l : List Int) (w : World) (h : isSz (m : Int) = true) (hv : Sl w v l) (hg : good (m : Int) l = true) :
    Calls Try.prog 19 #[.int .i64 m, v] w fun e w' => e = .returned (.tuple #[.int .i64 (wh (mt (tabF (m : Int) (fun i => l.getD i 0) l.length) m) m).length, .bool true]) ∧ Below w.heap.size w w' := by
  have hq := isSz_le (m : Int) h
  have hlen := (good_parts hg).1
  have hp := plGood_any (m : Int) v l w hv (by omega)
  rw [h, hg] at hp
  have HP := Lib.hid hp
  have HV := Lib.hid (fun w' (hb : Below w.heap.size w w') => plValues_any (m : Int) v l w' h (hv.below hb (Nat.le_refl _)) hg)
  have HTE := Lib.hid (fun i (hi : i < m) => tab_el (k := l.length) h (all_el h (good_parts hg).2) i hi)
  simp only [Int.toNat_natCast] at HV
  clear hp hg hv
  generalize tabF (m : Int) (fun i => l.getD i 0) l.length = t at *
  have HA := Lib.hid (fun v w (hs : Sl w v (fl t m)) => vaValues_any m m v t w (by omega) hs (fun i hi => HTE.out i hi) (by omega))
  clear h HTE
  go_enter Try.func19, Try.ntmps19
  go_wp2_with fail
  refine HP.out.mono ?_
  rintro e w1 ⟨rfl, hb1⟩
  have hz_hb1 := hb1.size; (try simp at hz_hb1)
  have HB1 := Lib.hid hb1; clear hb1
  go_wp2_with fail
  refine (HV.out _ HB1.out).mono ?_
  rintro e w3 ⟨v3, rfl, hr3, hb3⟩
  have HR3 := Lib.hid hr3
  have HB3 : Hid (Below w.heap.size w w3) := Lib.hid (HB1.out.trans (hb3.mono hz_hb1)); clear hb3 hr3
  go_wp2_with fail
  refine (HA.out _ _ HR3.out.sl).mono ?_
  rintro e w4 ⟨v4, rfl, hr4, hb4⟩
  obtain ⟨a4, cap4, rfl⟩ := hr4.sl.form
  have HB4 : Hid (Below w.heap.size w w4) := Lib.hid (HB3.out.trans (hb4.mono HB3.out.size)); clear hb4 hr4
  go_wp2
  go_ret2
  exact ⟨rfl, HB4.out⟩
set_option maxRecDepth 100000 in
set_option maxHeartbeats 4000000 in
theorem spec_PlaceCounts_yes (m : Nat) (v : Value) (l : List Int) (w : World) (h : isSz (m : Int) = true) (hv : Sl w v l) (hg : good (m : Int) l = true) :
    Calls Try.prog 23 #[.int .i64 m, v] w fun e w' => ∃ v', e = .returned (.tuple #[v', .bool true]) ∧ Row w' w.heap.size v' (fl (oc (tabF (m : Int) (fun i => l.getD i 0) l.length) m) m) ∧ Below w.heap.size w w' := by
  have hq := isSz_le (m : Int) h
  have hlen := (good_parts hg).1
  have hp := plGood_any (m : Int) v l w hv (by omega)
  rw [h, hg] at hp
  have HP := Lib.hid hp
  have HV := Lib.hid (fun w' (hb : Below w.heap.size w w') => plValues_any (m : Int) v l w' h (hv.below hb (Nat.le_refl _)) hg)
  have HTE := Lib.hid (fun i (hi : i < m) => tab_el (k := l.length) h (all_el h (good_parts hg).2) i hi)
  simp only [Int.toNat_natCast] at HV
  clear hp hg hv
  generalize tabF (m : Int) (fun i => l.getD i 0) l.length = t at *
  have HA := Lib.hid (fun v w (hs : Sl w v (fl t m)) => vaCounts_any m m v t w (by omega) hs (fun i hi => HTE.out i hi) (by omega))
  clear h HTE
  go_enter Try.func23, Try.ntmps23
  go_wp2_with fail
  refine HP.out.mono ?_
  rintro e w1 ⟨rfl, hb1⟩
  have hz_hb1 := hb1.size; (try simp at hz_hb1)
  have HB1 := Lib.hid hb1; clear hb1
  go_wp2_with fail
  refine (HV.out _ HB1.out).mono ?_
  rintro e w3 ⟨v3, rfl, hr3, hb3⟩
  have HR3 := Lib.hid hr3
  have HB3 : Hid (Below w.heap.size w w3) := Lib.hid (HB1.out.trans (hb3.mono hz_hb1)); clear hb3 hr3
  go_wp2_with fail
  refine (HA.out _ _ HR3.out.sl).mono ?_
  rintro e w4 ⟨g4, rfl, hg4, hgl4, hr4, hb4⟩
  have HR4 := Lib.hid hr4
  have HC4 : Hid (∀ i, i < m → w4.cell? ⟨g4, i, none⟩ = some (.int .i64 (oc t m i))) := Lib.hid fun i hi => by
    have := Row.cell (l := fl (oc t m) m) (by rw [fl_len]; exact hr4) i (by rw [fl_len]; exact hi)
    rwa [fl_get _ _ _ hi] at this
  have HB4 : Hid (Below w.heap.size w w4) := Lib.hid (HB3.out.trans (hb4.mono HB3.out.size)); clear hb4 hr4
  go_wp2
  go_ret2
  exact ⟨_, rfl, HR4.out.mono HB3.out.size, HB4.out⟩
set_option maxRecDepth 100000 in
set_option maxHeartbeats 4000000 in
theorem spec_PairsAlike_yes (m : Nat) (v : Value) (l : List Int) (w : World) (h : isSz (m : Int) = true) (hv : Sl w v l) (hg : good (m : Int) l = true) :
    Calls Try.prog 25 #[.int .i64 m, v] w fun e w' => e = .returned (.tuple #[.int .i64 (pa (oc (tabF (m : Int) (fun i => l.getD i 0) l.length) m) m), .bool true]) ∧ Below w.heap.size w w' := by
  have hq := isSz_le (m : Int) h
  have hlen := (good_parts hg).1
  have hp := plGood_any (m : Int) v l w hv (by omega)
  rw [h, hg] at hp
  have HP := Lib.hid hp
  have HV := Lib.hid (fun w' (hb : Below w.heap.size w w') => plValues_any (m : Int) v l w' h (hv.below hb (Nat.le_refl _)) hg)
  have HTE := Lib.hid (fun i (hi : i < m) => tab_el (k := l.length) h (all_el h (good_parts hg).2) i hi)
  simp only [Int.toNat_natCast] at HV
  clear hp hg hv
  generalize tabF (m : Int) (fun i => l.getD i 0) l.length = t at *
  have HA := Lib.hid (fun v w (hs : Sl w v (fl t m)) => vaCounts_any m m v t w (by omega) hs (fun i hi => HTE.out i hi) (by omega))
  have hc : ∀ y, 0 ≤ oc t m y ∧ oc t m y ≤ 16 := fun y => by have := oc_bd t m y; omega
  have HB := Lib.hid (fun y => half_bd (oc t m y) (hc y).1 (hc y).2)
  have HCB := Lib.hid hc
  have HPB := Lib.hid (pa_bd hc)
  have HS : Hid (∀ k, pa (oc t m) (k + 1) = pa (oc t m) k + (oc t m k * (oc t m k - 1)).tdiv 2) := Lib.hid fun _ => rfl
  clear h HTE hc
  go_enter Try.func25, Try.ntmps25
  go_wp2_with fail
  refine HP.out.mono ?_
  rintro e w1 ⟨rfl, hb1⟩
  have hz_hb1 := hb1.size; (try simp at hz_hb1)
  have HB1 := Lib.hid hb1; clear hb1
  go_wp2_with fail
  refine (HV.out _ HB1.out).mono ?_
  rintro e w3 ⟨v3, rfl, hr3, hb3⟩
  have HR3 := Lib.hid hr3
  have HB3 : Hid (Below w.heap.size w w3) := Lib.hid (HB1.out.trans (hb3.mono hz_hb1)); clear hb3 hr3
  go_wp2_with fail
  refine (HA.out _ _ HR3.out.sl).mono ?_
  rintro e w4 ⟨g4, rfl, hg4, hgl4, hr4, hb4⟩
  have HR4 := Lib.hid hr4
  have HC4 : Hid (∀ i, i < m → w4.cell? ⟨g4, i, none⟩ = some (.int .i64 (oc t m i))) := Lib.hid fun i hi => by
    have := Row.cell (l := fl (oc t m) m) (by rw [fl_len]; exact hr4) i (by rw [fl_len]; exact hi)
    rwa [fl_get _ _ _ hi] at this
  have HB4 : Hid (Below w.heap.size w w4) := Lib.hid (HB3.out.trans (hb4.mono HB3.out.size)); clear hb4 hr4
  have hz : pa (oc t m) 0 = 0 := rfl
  go_wp2_with fail
  go_loopw [6, 19] (fun vs vi wr => ∃ i : Nat, i ≤ m ∧ vi = .int .i64 i ∧ vs = .int .i64 (pa (oc t m) i) ∧ wr = w4) (fun _ vi _ => m - (intOf vi).toNat)
  case atStart => exact ⟨0, by omega, rfl, by rw [hz], rfl⟩
  case round =>
    obtain ⟨i, hi16, rfl, rfl, rfl⟩ := hrel
    by_cases hlt : i < m
    · have hg := HC4.out i hlt
      obtain ⟨b1, b2, b3, b4⟩ := HB.out i
      obtain ⟨b5, b6⟩ := HPB.out i
      obtain ⟨b7, b8⟩ := HCB.out i
      have HS' := Lib.hid (HS.out i)
      generalize pa (oc t m) i = y at *
      generalize oc t m i = x at *
      have h1 : IntKind.i64.wrap (x - 1) = x - 1 := IntWalk.i64_in _ (by omega)
      obtain ⟨p, hp⟩ : ∃ p, x * (x - 1) = p := ⟨_, rfl⟩
      rw [hp] at b1 b2 b3 b4 HS'
      have h2 : IntKind.i64.wrap p = p := IntWalk.i64_in _ (by omega)
      obtain ⟨d, hd⟩ : ∃ d, p.tdiv 2 = d := ⟨_, rfl⟩
      rw [hd] at b1 b2 HS'
      have h3 : IntKind.i64.wrap d = d := IntWalk.i64_in _ (by omega)
      have h4 : IntKind.i64.wrap (y + d) = y + d := IntWalk.i64_in _ (by omega)
      go_wp2
      go_roundw
      case rel => exact ⟨i + 1, by omega, by go_num, by rw [HS'.out], by first | rfl | trivial⟩
      case measure => simp [intOf]; omega
    · obtain rfl : m = i := by omega
      go_wp2
      go_ret2
      exact ⟨rfl, HB4.out⟩
set_option maxRecDepth 100000 in
set_option maxHeartbeats 4000000 in
theorem spec_IsTwoToOne_yes (m : Nat) (v : Value) (l : List Int) (w : World) (h : isSz (m : Int) = true) (hv : Sl w v l) (hg : good (m : Int) l = true) :
    Calls Try.prog 31 #[.int .i64 m, v] w fun e w' => e = .returned (.tuple #[.bool (tw (oc (tabF (m : Int) (fun i => l.getD i 0) l.length) m) 0 m 0), .bool true]) ∧ Below w.heap.size w w' := by
  have hq := isSz_le (m : Int) h
  have hlen := (good_parts hg).1
  have hp := plGood_any (m : Int) v l w hv (by omega)
  rw [h, hg] at hp
  have HP := Lib.hid hp
  have HV := Lib.hid (fun w' (hb : Below w.heap.size w w') => plValues_any (m : Int) v l w' h (hv.below hb (Nat.le_refl _)) hg)
  have HTE := Lib.hid (fun i (hi : i < m) => tab_el (k := l.length) h (all_el h (good_parts hg).2) i hi)
  simp only [Int.toNat_natCast] at HV
  clear hp hg hv
  generalize tabF (m : Int) (fun i => l.getD i 0) l.length = t at *
  have HA := Lib.hid (fun v w (hs : Sl w v (fl t m)) => vaCounts_any m m v t w (by omega) hs (fun i hi => HTE.out i hi) (by omega))
  have hc : ∀ y, 0 ≤ oc t m y ∧ oc t m y ≤ 16 := fun y => by have := oc_bd t m y; omega
  have HCB := Lib.hid hc
  clear h HTE hc
  have HT1 := Lib.hid (fun i n a h0 h => tw_big (c := oc t m) (i := i) (n := n) (a := a) h0 h)
  have HT2 := Lib.hid (fun i n a h0 h => tw_one (c := oc t m) (i := i) (n := n) (a := a) h0 h)
  have HT3 := Lib.hid (fun i n a h0 h h' => tw_oth (c := oc t m) (i := i) (n := n) (a := a) h0 h h')
  have HT4 : Hid (∀ i a, tw (oc t m) i 0 a = decide (a ≤ 1)) := Lib.hid fun _ _ => rfl
  obtain ⟨ans, hans⟩ : ∃ x, tw (oc t m) 0 m 0 = x := ⟨_, rfl⟩
  rw [hans]
  have HANS := Lib.hid hans
  clear hans
  go_enter Try.func31, Try.ntmps31
  go_wp2_with fail
  refine HP.out.mono ?_
  rintro e w1 ⟨rfl, hb1⟩
  have hz_hb1 := hb1.size; (try simp at hz_hb1)
  have HB1 := Lib.hid hb1; clear hb1
  go_wp2_with fail
  refine (HV.out _ HB1.out).mono ?_
  rintro e w3 ⟨v3, rfl, hr3, hb3⟩
  have HR3 := Lib.hid hr3
  have HB3 : Hid (Below w.heap.size w w3) := Lib.hid (HB1.out.trans (hb3.mono hz_hb1)); clear hb3 hr3
  go_wp2_with fail
  refine (HA.out _ _ HR3.out.sl).mono ?_
  rintro e w4 ⟨g4, rfl, hg4, hgl4, hr4, hb4⟩
  have HR4 := Lib.hid hr4
  have HC4 : Hid (∀ i, i < m → w4.cell? ⟨g4, i, none⟩ = some (.int .i64 (oc t m i))) := Lib.hid fun i hi => by
    have := Row.cell (l := fl (oc t m) m) (by rw [fl_len]; exact hr4) i (by rw [fl_len]; exact hi)
    rwa [fl_get _ _ _ hi] at this
  have HB4 : Hid (Below w.heap.size w w4) := Lib.hid (HB3.out.trans (hb4.mono HB3.out.size)); clear hb4 hr4
  go_wp2_with fail
  go_loopw [6, 19] (fun vs vi wr => ∃ i a : Nat, i ≤ m ∧ a ≤ i ∧ vi = .int .i64 i ∧ vs = .int .i64 a ∧ tw (oc t m) i (m - i) a = ans ∧ wr = w4) (fun _ vi _ => m - (intOf vi).toNat)
  case atStart => exact ⟨0, 0, by omega, by omega, rfl, rfl, HANS.out, rfl⟩
  case round =>
    obtain ⟨i, a, hi16, hai, rfl, rfl, htw, rfl⟩ := hrel
    have HTW := Lib.hid htw; clear htw
    by_cases hlt : i < m
    · have hg := HC4.out i hlt
      obtain ⟨b7, b8⟩ := HCB.out i
      have HX1 := Lib.hid (HT1.out i (m - i) a (by omega))
      have HX2 := Lib.hid (HT2.out i (m - i) a (by omega))
      have HX3 := Lib.hid (HT3.out i (m - i) a (by omega))
      generalize oc t m i = x at *
      by_cases h2 : 2 < x
      · have HF : Hid (ans = false) := Lib.hid (by rw [← HTW.out]; exact HX1.out h2)
        clear HX1 HX2 HX3 HTW
        go_wp2
        go_ret2
        exact ⟨by rw [HF.out]; rfl, HB4.out⟩
      · by_cases h1 : x = 1
        · have HF : Hid (tw (oc t m) (i + 1) (m - (i + 1)) (a + 1) = ans) := Lib.hid (by rw [← HTW.out, HX2.out h1, show m - (i + 1) = m - i - 1 by omega])
          clear HX1 HX2 HX3 HTW
          subst h1
          go_wp2
          go_roundw
          case rel => exact ⟨i + 1, a + 1, by omega, by omega, by go_num, by go_num, HF.out, by first | rfl | trivial⟩
          case measure => simp [intOf]; omega
        · have HF : Hid (tw (oc t m) (i + 1) (m - (i + 1)) a = ans) := Lib.hid (by rw [← HTW.out, HX3.out (by omega) h1, show m - (i + 1) = m - i - 1 by omega])
          have h1' : (x == 1) = false := by simpa using h1
          clear HX1 HX2 HX3 HTW h1
          go_wp2
          go_roundw
          case rel => exact ⟨i + 1, a, by omega, by omega, by go_num, rfl, HF.out, by first | rfl | trivial⟩
          case measure => simp [intOf]; omega
    · obtain rfl : m = i := by omega
      have HF : Hid (decide (a ≤ 1) = ans) := Lib.hid (by rw [← HTW.out, Nat.sub_self]; exact (HT4.out m a).symm)
      clear HTW
      by_cases ha : a ≤ 1
      · go_wp2
        go_ret2
        exact ⟨by rw [← HF.out]; simp [ha]; omega, HB4.out⟩
      · go_wp2
        go_ret2
        exact ⟨by rw [← HF.out]; simp [ha]; omega, HB4.out⟩
set_option maxRecDepth 100000 in
set_option maxHeartbeats 4000000 in
theorem spec_FirstMoment_yes (m : Nat) (v : Value) (l : List Int) (w : World) (h : isSz (m : Int) = true) (hv : Sl w v l) (hg : good (m : Int) l = true) :
    Calls Try.prog 29 #[.int .i64 m, v] w fun e w' => e = .returned (.tuple #[.int .i64 (fm (psum m (tabF (m : Int) (fun i => l.getD i 0) l.length)) 1 (m - 1)).1, .bool (fm (psum m (tabF (m : Int) (fun i => l.getD i 0) l.length)) 1 (m - 1)).2]) ∧ Below w.heap.size w w' := by
  have hq := isSz_le (m : Int) h
  have hlen := (good_parts hg).1
  have hp := plGood_any (m : Int) v l w hv (by omega)
  rw [h, hg] at hp
  have HP := Lib.hid hp
  have HV := Lib.hid (fun w' (hb : Below w.heap.size w w') => plValues_any (m : Int) v l w' h (hv.below hb (Nat.le_refl _)) hg)
  have HTE := Lib.hid (fun i (hi : i < m) => tab_el (k := l.length) h (all_el h (good_parts hg).2) i hi)
  simp only [Int.toNat_natCast] at HV
  clear hp hg hv
  generalize tabF (m : Int) (fun i => l.getD i 0) l.length = t at *
  have HS := Lib.hid (fun K v w (hs : Sl w v (fl t m)) (hK : K ≤ 1000) => peSum_any m K v t w h hs (fun i hi => HTE.out i hi) hK)
  have HNO := Lib.hid (fun k n h0 h => fm_no (s := psum m t) (k := k) (n := n) h0 h)
  have HYES := Lib.hid (fun k n h0 h => fm_yes (s := psum m t) (k := k) (n := n) h0 h)
  have HEND : Hid (∀ k, fm (psum m t) k 0 = (0, false)) := Lib.hid fun _ => rfl
  clear h HTE
  generalize psum m t = s at *
  obtain ⟨ans, hans⟩ : ∃ x, fm s 1 (m - 1) = x := ⟨_, rfl⟩
  rw [hans]
  have HANS := Lib.hid hans
  clear hans
  go_enter Try.func29, Try.ntmps29
  go_wp2_with fail
  refine HP.out.mono ?_
  rintro e w1 ⟨rfl, hb1⟩
  have hz_hb1 := hb1.size; (try simp at hz_hb1)
  have HB1 := Lib.hid hb1; clear hb1
  go_wp2_with fail
  refine (HV.out _ HB1.out).mono ?_
  rintro e w3 ⟨v3, rfl, hr3, hb3⟩
  have HR3 := Lib.hid hr3
  have HB3 : Hid (Below w.heap.size w w3) := Lib.hid (HB1.out.trans (hb3.mono hz_hb1)); clear hb3 hr3
  go_wp2_with fail
  go_loopw [7] (fun vi wr => ∃ k : Nat, 1 ≤ k ∧ k ≤ m ∧ vi = .int .i64 k ∧ fm s k (m - k) = ans ∧ Below w3.heap.size w3 wr) (fun vi _ => m - (intOf vi).toNat)
  case atStart => exact ⟨1, by omega, by omega, rfl, HANS.out, Below.refl _ _⟩
  case round =>
    obtain ⟨k, hk1, hkm, rfl, hfm, hbw⟩ := hrel
    have HBW := Lib.hid hbw
    have HFM := Lib.hid hfm
    clear hbw hfm
    by_cases hlt : k < m
    · have HS' := Lib.hid (HS.out k v3 wr (HR3.out.below HBW.out).sl (by omega))
      have hno := HNO.out k (m - k) (by omega)
      have hyes := HYES.out k (m - k) (by omega)
      generalize s k = x at *
      by_cases hx : x = 0
      · have HG : Hid (fm s (k + 1) (m - (k + 1)) = ans) := Lib.hid (by rw [← HFM.out, hno hx, show m - (k + 1) = m - k - 1 by omega])
        subst hx
        clear hno hyes HFM
        go_wp2_with fail
        refine HS'.out.mono ?_
        rintro e w5 ⟨rfl, hb5⟩
        have HB5 : Hid (Below w3.heap.size w3 w5) := Lib.hid (HBW.out.trans (hb5.mono HBW.out.size))
        clear hb5
        go_wp2
        go_roundw
        case rel => exact ⟨k + 1, by omega, by omega, by go_num, HG.out, HB5.out⟩
        case measure => simp [intOf]; omega
      · have HG : Hid (ans = ((k : Int), true)) := Lib.hid (by rw [← HFM.out, hyes hx])
        have hx' : (x == 0) = false := by simpa using hx
        clear hno hyes HFM hx
        go_wp2_with fail
        refine HS'.out.mono ?_
        rintro e w5 ⟨rfl, hb5⟩
        have HB5 : Hid (Below w3.heap.size w3 w5) := Lib.hid (HBW.out.trans (hb5.mono HBW.out.size))
        clear hb5
        go_wp2
        go_ret2
        exact ⟨by rw [HG.out]; rfl, HB3.out.trans (HB5.out.mono HB3.out.size)⟩
    · obtain rfl : m = k := by omega
      have HG : Hid (ans = (0, false)) := Lib.hid (by rw [← HFM.out, Nat.sub_self]; exact HEND.out m)
      clear HFM
      go_wp2
      go_ret2
      exact ⟨by rw [HG.out]; rfl, HB3.out.trans (HBW.out.mono HB3.out.size)⟩
theorem spec_ValueMoment_no (q : Int) (v : Value) (l : List Int) (k : Int) (w : World) (hv : Sl w v l) (hl : l.length ≤ 1048576) (hg : (isSz q && good q l) = false) :
    Calls Try.prog 27 #[.int .i64 q, v, .int .i64 k] w fun e w' => e = .returned (.tuple #[.int .i64 0, .bool false]) ∧ Below w.heap.size w w' := by
  have hp := plGood_any q v l w hv hl
  rw [hg] at hp
  have HP := Lib.hid hp
  have HI := Lib.hid (fun w => l1In_any k 0 1000 w)
  clear hp hg hv hl
  go_enter Try.func27, Try.ntmps27
  go_wp2_with fail
  refine HP.out.mono ?_
  rintro e w1 ⟨rfl, hb1⟩
  go_wp2
  go_ret2
  exact ⟨rfl, hb1⟩
theorem spec_ValueMoment_out (m : Nat) (v : Value) (l : List Int) (k : Int) (w : World) (h : isSz (m : Int) = true) (hv : Sl w v l) (hg : good (m : Int) l = true) (hk : ¬ (0 ≤ k ∧ k ≤ 1000)) :
    Calls Try.prog 27 #[.int .i64 m, v, .int .i64 k] w fun e w' => e = .returned (.tuple #[.int .i64 0, .bool false]) ∧ Below w.heap.size w w' := by
  have hlen := (good_parts hg).1
  have hq := isSz_le (m : Int) h
  have hp := plGood_any (m : Int) v l w hv (by omega)
  rw [h, hg] at hp
  have HP := Lib.hid hp
  have HI := Lib.hid (fun w => l1In_any k 0 1000 w)
  have hd : (decide (0 ≤ k) && decide (k ≤ 1000)) = false := by
    cases h1 : decide (0 ≤ k) && decide (k ≤ 1000) with
    | false => rfl
    | true => simp at h1; exact absurd h1 hk
  rw [hd] at HI
  clear hp hg hv hk hd
  go_enter Try.func27, Try.ntmps27
  go_wp2_with fail
  refine HP.out.mono ?_
  rintro e w1 ⟨rfl, hb1⟩
  have HB1 := Lib.hid hb1; clear hb1
  go_wp2_with fail
  refine (HI.out _).mono ?_
  rintro e _ ⟨rfl, rfl⟩
  go_wp2
  go_ret2
  exact ⟨rfl, HB1.out⟩
set_option maxRecDepth 100000 in
set_option maxHeartbeats 4000000 in
theorem spec_ValueMoment_yes (m K : Nat) (v : Value) (l : List Int) (w : World) (h : isSz (m : Int) = true) (hv : Sl w v l) (hg : good (m : Int) l = true) (hK : K ≤ 1000) :
    Calls Try.prog 27 #[.int .i64 m, v, .int .i64 K] w fun e w' => e = .returned (.tuple #[.int .i64 (psum m (tabF (m : Int) (fun i => l.getD i 0) l.length) K), .bool true]) ∧ Below w.heap.size w w' := by
  have hq := isSz_le (m : Int) h
  have hlen := (good_parts hg).1
  have hp := plGood_any (m : Int) v l w hv (by omega)
  rw [h, hg] at hp
  have HP := Lib.hid hp
  have HV := Lib.hid (fun w' (hb : Below w.heap.size w w') => plValues_any (m : Int) v l w' h (hv.below hb (Nat.le_refl _)) hg)
  have HTE := Lib.hid (fun i (hi : i < m) => tab_el (k := l.length) h (all_el h (good_parts hg).2) i hi)
  simp only [Int.toNat_natCast] at HV
  clear hp hg hv
  generalize tabF (m : Int) (fun i => l.getD i 0) l.length = t at *
  have HS := Lib.hid (fun v w (hs : Sl w v (fl t m)) => peSum_any m K v t w h hs (fun i hi => HTE.out i hi) hK)
  have HI := Lib.hid (fun w => l1In_any (K : Int) 0 1000 w)
  have hd : (decide ((0 : Int) ≤ (K : Int)) && decide ((K : Int) ≤ 1000)) = true := by simp; omega
  rw [hd] at HI
  clear h HTE hd
  generalize psum m t K = s at *
  go_enter Try.func27, Try.ntmps27
  go_wp2_with fail
  refine HP.out.mono ?_
  rintro e w1 ⟨rfl, hb1⟩
  have HB1 := Lib.hid hb1; clear hb1
  go_wp2_with fail
  refine (HI.out _).mono ?_
  rintro e _ ⟨rfl, rfl⟩
  go_wp2_with fail
  refine (HV.out _ HB1.out).mono ?_
  rintro e w3 ⟨v3, rfl, hr3, hb3⟩
  have HR3 := Lib.hid hr3
  have HB3 : Hid (Below w.heap.size w w3) := Lib.hid (HB1.out.trans (hb3.mono HB1.out.size)); clear hb3 hr3
  go_wp2_with fail
  refine (HS.out _ _ HR3.out.sl).mono ?_
  rintro e w4 ⟨rfl, hb4⟩
  have HB4 : Hid (Below w.heap.size w w4) := Lib.hid (HB3.out.trans (hb4.mono HB3.out.size)); clear hb4
  go_wp2
  go_ret2
  exact ⟨rfl, HB4.out⟩
end Go.Proofs.Ytnmdcmbcackchaa
