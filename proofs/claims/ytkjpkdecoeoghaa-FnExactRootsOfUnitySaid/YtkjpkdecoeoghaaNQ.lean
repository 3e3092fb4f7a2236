/- RootsOfUnity, of both, by contracts; the walk of its law. -/
import Derived.Test.YtkjpkdecoeoghaaNP
namespace Go.Proofs.Ytkjpkdecoeoghaa
open Go.RowKit
set_option maxRecDepth 100000 in
set_option maxHeartbeats 1000000 in
/-- impl.roots.list. -/
theorem rootsList (cs : Array Value) (q : Int) (l : List Int) (w : World) (hr : RV cs q l) (hl : l.length ≤ 15) :
    Calls Try.prog 19 #[.agg cs] w fun e w' => ∃ g, e = .returned (.slice (some ⟨g, 1, none⟩) l.length 15) ∧ w.heap.size ≤ g ∧ g < w'.heap.size ∧ ElO w' g q (fun i => l.getD i 0) l.length ∧ Below w.heap.size w w' := by
  have hh := heap_alloc_new w (.cells cs 46 (0, 0))
  have hc : (w.alloc (.cells cs 46 (0, 0))).cell? ⟨w.heap.size, 0, none⟩ = some (.int .i64 l.length) := by rw [cell_of_row _ _ _ _ _ _ hh]; exact hr.cnt
  have HE := Lib.hid (hr.elo hh)
  have hone := hr.all
  have hu := Try.underlying46
  have hi : (Try.prog.info? 46).map (·.size) = some cs.size := by rw [hr.size]; kernel_rfl
  generalize l.length = n at *
  clear hr hh
  have hu3 := Try.underlying44
  have hal : Try.prog.arrayLen 44 = 15 := by simp [Program.arrayLen, hu3]
  have hsl : ∀ W, (Instr.sliceAt 44 (.pointer (some ⟨w.heap.size, 1, none⟩)) none (some (.int .i64 (n : Int))) none).run Try.prog W = .ok (.slice (some ⟨w.heap.size, 1, none⟩) n 15) W := fun W => by
    rw [run_sliceAt_array_h W 44 ⟨w.heap.size, 1, none⟩ (by simp [Program.arrayLen, Program.elem, hu3]) .i64 (n : Int) (by omega) (by rw [hal]; omega)]
    go_simp
  go_enter Try.func19, Try.ntmps19
  go_wp2_with fail
  go_ret
  exact ⟨_, rfl, Nat.le_refl _, by simp, HE.out, by (repeat' (first | (with_reducible assumption) | (with_reducible exact Below.refl _ _) | (with_reducible refine below_drewN ?_ _) | (with_reducible refine Below.drew ?_) | (with_reducible refine Below.alloc ?_ ?_ _) | (with_reducible refine Below.setCell ?_ ?_ _) | (with_reducible refine Below.trans ?_ (Below.mono (by assumption) ?_)) | (with_reducible exact Nat.le_refl _) | (with_reducible assumption) | omega | (simp; omega) | (simp; done)))⟩
set_option maxRecDepth 100000 in
set_option maxHeartbeats 2000000 in
/-- spec.kdRoots. -/
theorem kdRoots_any (m d : Nat) (w : World) (h : isSz (m : Int) = true) (hd : d ≤ 15) :
    Calls Try.prog 14 #[.int .i64 m, .int .i64 d] w fun e w' => ∃ v, e = .returned v ∧ Row w' w.heap.size v (wh (isRt (m : Int) d) m) ∧ Below w.heap.size w w' := by
  obtain ⟨i0, hi, iz0, iz1, iz2⟩ := info_parts Try.infoI
  have hq := isSz_le (m : Int) h
  have HW := Lib.hid (fun (i : Nat) w (hi : i < m) => by have := fdPower_any (m : Int) (i : Int) (d : Int) w h (by omega) (by omega) (by omega) (by omega); rw [Int.toNat_natCast] at this; exact this)
  have HRT := Lib.hid (fun a (h : a ≠ 0) => rt_pos (q := (m : Int)) (d := d) h)
  have HL := Lib.hid (wh_len (isRt (m : Int) d))
  have HY := Lib.hid (fun n (hp : isRt (m : Int) d n = true) => wh_yes (isRt (m : Int) d) n hp)
  have HN := Lib.hid (fun n (hp : isRt (m : Int) d n = false) => wh_no (isRt (m : Int) d) n hp)
  have H1 : Hid (wh (isRt (m : Int) d) 1 = []) := Lib.hid rfl
  clear h
  generalize hP : isRt (m : Int) d = P at *
  clear hP
  go_enter Try.func14, Try.ntmps14
  go_wp2_with fail
  go_loopw [5, 6] (fun vo vi wr => ∃ i : Nat, 1 ≤ i ∧ i ≤ m ∧ vi = .int .i64 i ∧ Row wr w.heap.size vo (wh P i) ∧ Below w.heap.size w wr) (fun _ vi _ => m - (intOf vi).toNat)
  case atStart => exact ⟨1, Nat.le_refl _, by omega, rfl, by rw [H1.out]; exact Row.nil _ _, Below.refl _ _⟩
  case round =>
    obtain ⟨i, hi1, hi', rfl, hr, hbw⟩ := hrel
    have hz := hbw.size
    have hll := HL.out i
    have HR := Lib.hid hr; clear hr
    have HBW := Lib.hid hbw; clear hbw
    by_cases hlt : i < m
    · have HW' := Lib.hid (fun w => HW.out i w hlt)
      have hrt := HRT.out i (by omega)
      have hy := HY.out i
      have hn := HN.out i
      by_cases hpw : pw (m : Int) (i : Int) d = 1
      · have HS := Lib.hid (hy (by rw [hrt]; exact decide_eq_true hpw))
        rw [hpw] at HW'
        clear hy hn hrt hpw
        go_wp2_with fail
        refine (HW'.out _).mono ?_
        rintro e w5 ⟨rfl, hb5⟩
        have hz_hb5 := hb5.size; (try simp at hz_hb5)
        have HR5 := Lib.hid (HR.out.below hb5)
        have HB5 := Lib.hid (HBW.out.trans (hb5.mono (by omega)))
        have hz5 := HB5.out.size
        clear hb5
        go_wp2_with (at_builtin; refine wpList_append_own _ rfl _ _ 22 rfl w.heap.size 3 i0 (.int .i64 0) 1 8 Try.underlying22 hi iz0 iz1 iz2 rfl (by decide) _ _ _ rfl (World.ownsRow.alloc HR5.out _) ⟨w5.heap.size, 0, none⟩ 1 1 [.int .i64 i] rfl rfl ?c1 ?c2 ?c3 ?c4 ?c5 ?_)
        case c1 => exact cell_one_new _ _ _
        case c2 => intro u hu; simp at hu; subst hu; rfl
        case c3 => unfold maxLen; omega
        case c4 => omega
        case c5 => simp; omega
        intro v' w6 hown hgrow _
        have HR6 := Lib.hid (Row.appended hown)
        have hb : Below w.heap.size w (w5.alloc (.cells #[.int .i64 i] 3)) := HB5.out.alloc (by omega) _
        have HB6 := Lib.hid (hb.grown hgrow (by simp; omega) (fun g hg => (HR5.out.lt g hg).1))
        clear hown hgrow hb
        go_wp2
        go_roundw
        case rel => exact ⟨i + 1, by omega, by omega, by first | rfl | go_num, by rw [HS.out]; exact HR6.out, HB6.out⟩
        case measure => simp [intOf]; omega
      · have HS := Lib.hid (hn (by rw [hrt]; exact decide_eq_false hpw))
        clear hy hn hrt
        generalize pw (m : Int) (i : Int) d = y at *
        go_wp2_with fail
        refine (HW'.out _).mono ?_
        rintro e w5 ⟨rfl, hb5⟩
        have hz_hb5 := hb5.size; (try simp at hz_hb5)
        have HR5 := Lib.hid (HR.out.below hb5)
        have HB5 := Lib.hid (HBW.out.trans (hb5.mono (by omega)))
        clear hb5
        go_wp2
        go_roundw
        case rel => exact ⟨i + 1, by omega, by omega, by first | rfl | go_num, by rw [HS.out]; exact HR5.out, HB5.out⟩
        case measure => simp [intOf]; omega
    · obtain rfl : m = i := by omega
      go_wp2
      go_ret
      exact ⟨_, rfl, HR.out, HBW.out⟩
theorem wh_els {m : Nat} {P : Nat → Bool} (h : isSz (m : Int) = true) (i : Nat) : El (m : Int) ((wh P m).getD i 0) := by
  have hz := El.zero h
  by_cases hi : i < (wh P m).length
  · have hm : (wh P m).getD i 0 ∈ wh P m := by rw [List.getD, List.getElem?_eq_getElem hi]; exact List.getElem_mem hi
    unfold wh at hm
    rw [List.mem_map] at hm
    obtain ⟨a, ha, e⟩ := hm
    rw [← show ((a : Int)) = (wh P m).getD i 0 from e]
    exact El.nat (List.mem_range.1 (List.mem_filter.1 ha).1)
  · rw [List.getD, List.getElem?_eq_none (by omega)]
    exact hz
theorem fl_self (l : List Int) : fl (fun i => l.getD i 0) l.length = l := by
  refine List.ext_getElem (by rw [fl_len]) fun i h1 h2 => ?_
  simp [fl, List.getD, List.getElem?_eq_getElem h2]
theorem spec_RootsOfUnity_no (q d : Int) (w : World) (h : dvd q d = false) :
    Calls Try.prog 5 #[.int .i64 q, .int .i64 d] w fun e w' => e = .returned (.tuple #[.slice none 0 0, .bool false]) ∧ Below w.heap.size w w' := by
  have HA := Lib.hid (fun w => kdDivides_any q d w)
  rw [h] at HA
  clear h
  go_enter Try.func5, Try.ntmps5
  go_wp2_with fail
  refine (HA.out _).mono ?_
  rintro e w1 ⟨rfl, hb1⟩
  go_wp2
  go_ret2
  exact ⟨rfl, hb1⟩
theorem spec_RootsOfUnity_yes (m d : Nat) (w : World) (h : isSz (m : Int) = true) (hv : dvd (m : Int) (d : Int) = true) (hd : d ≤ 15) :
    Calls Try.prog 5 #[.int .i64 m, .int .i64 d] w fun e w' => ∃ v, e = .returned (.tuple #[v, .bool true]) ∧ Row w' w.heap.size v (wh (isRt (m : Int) d) m) ∧ Below w.heap.size w w' := by
  have HA := Lib.hid (fun w => kdDivides_any (m : Int) (d : Int) w)
  have HK := Lib.hid (fun w => kdRoots_any m d w h hd)
  rw [hv] at HA
  clear h hv
  generalize wh (isRt (m : Int) d) m = r at *
  go_enter Try.func5, Try.ntmps5
  go_wp2_with fail
  refine (HA.out _).mono ?_
  rintro e w1 ⟨rfl, hb1⟩
  obtain ⟨hc1, hf1⟩ := bcell hb1; have hz1 := hb1.size; (try simp at hz1); have HB1 := Lib.hid hb1; clear hb1
  go_wp2_with fail
  refine (HK.out _).mono ?_
  rintro e w2 ⟨v2, rfl, hr2, hb2⟩
  have HR2 := Lib.hid hr2; clear hr2
  obtain ⟨hc2, hf2⟩ := bcell hb2; have hz2 := hb2.size; (try simp at hz2); have HB2 := Lib.hid hb2; clear hb2
  go_wp2
  go_ret2
  have hb1 := HB1.out
  have hb2 := HB2.out
  exact ⟨_, rfl, HR2.out.mono (by (try simp); omega), by (repeat' (first | (with_reducible assumption) | (with_reducible exact Below.refl _ _) | (with_reducible refine below_drewN ?_ _) | (with_reducible refine Below.drew ?_) | (with_reducible refine Below.alloc ?_ ?_ _) | (with_reducible refine Below.setCell ?_ ?_ _) | (with_reducible refine Below.trans ?_ (Below.mono (by assumption) ?_)) | (with_reducible exact Nat.le_refl _) | (with_reducible assumption) | omega | (simp; omega) | (simp; done)))⟩
theorem impl_RootsOfUnity_no (q d : Int) (w : World) (h : dvd q d = false) :
    Calls Try.prog 6 #[.int .i64 q, .int .i64 d] w fun e w' => e = .returned (.tuple #[.slice none 0 0, .bool false]) ∧ Below w.heap.size w w' := by
  cases hs : isSz q with
  | false =>
    have HF := Lib.hid (fun w => fieldOf_no q w hs)
    clear h hs
    go_enter Try.func6, Try.ntmps6
    go_wp2_with fail
    refine (HF.out _).mono ?_
    rintro e w1 ⟨rfl, hb1⟩
    obtain ⟨hc1, hf1⟩ := bcell hb1; have hz1 := hb1.size; (try simp at hz1); have HB1 := Lib.hid hb1; clear hb1
    go_wp2
    go_ret2
    have hb1 := HB1.out
    exact ⟨rfl, by (repeat' (first | (with_reducible assumption) | (with_reducible exact Below.refl _ _) | (with_reducible refine below_drewN ?_ _) | (with_reducible refine Below.drew ?_) | (with_reducible refine Below.alloc ?_ ?_ _) | (with_reducible refine Below.setCell ?_ ?_ _) | (with_reducible refine Below.trans ?_ (Below.mono (by assumption) ?_)) | (with_reducible exact Nat.le_refl _) | (with_reducible assumption) | omega | (simp; omega) | (simp; done)))⟩
  | true =>
    obtain ⟨m, rfl⟩ := size_nat hs
    have HF := Lib.hid (fun w => fieldOf_yes (m : Int) w hs)
    have HX := Lib.hid (fun w => dividesUnitsE m d w hs)
    rw [h] at HX
    clear h hs
    go_enter Try.func6, Try.ntmps6
    go_wp2_with fail
    refine (HF.out _).mono ?_
    rintro e w1 ⟨rfl, hb1⟩
    obtain ⟨hc1, hf1⟩ := bcell hb1; have hz1 := hb1.size; (try simp at hz1); have HB1 := Lib.hid hb1; clear hb1
    go_wp2_with fail
    refine (HX.out _).mono ?_
    rintro e w2 ⟨rfl, hb2⟩
    obtain ⟨hc2, hf2⟩ := bcell hb2; have hz2 := hb2.size; (try simp at hz2); have HB2 := Lib.hid hb2; clear hb2
    go_wp2
    go_ret2
    have hb1 := HB1.out
    have hb2 := HB2.out
    exact ⟨rfl, by (repeat' (first | (with_reducible assumption) | (with_reducible exact Below.refl _ _) | (with_reducible refine below_drewN ?_ _) | (with_reducible refine Below.drew ?_) | (with_reducible refine Below.alloc ?_ ?_ _) | (with_reducible refine Below.setCell ?_ ?_ _) | (with_reducible refine Below.trans ?_ (Below.mono (by assumption) ?_)) | (with_reducible exact Nat.le_refl _) | (with_reducible assumption) | omega | (simp; omega) | (simp; done)))⟩
set_option maxRecDepth 100000 in
set_option maxHeartbeats 2000000 in
theorem impl_RootsOfUnity_yes (m d : Nat) (w : World) (h : isSz (m : Int) = true) (hv : dvd (m : Int) (d : Int) = true) (hd1 : 1 ≤ d) (hd : d ≤ 15) :
    Calls Try.prog 6 #[.int .i64 m, .int .i64 d] w fun e w' => ∃ v, e = .returned (.tuple #[v, .bool true]) ∧ Row w' w.heap.size v (wh (isRt (m : Int) d) m) ∧ Below w.heap.size w w' := by
  have hq := isSz_le (m : Int) h
  have HF := Lib.hid (fun w => fieldOf_yes (m : Int) w h)
  have HX := Lib.hid (fun w => dividesUnitsE m (d : Int) w h)
  rw [hv] at HX
  have HR := Lib.hid (fun w => rootsE m d w h hd1 hd)
  have hfew := rt_few (m : Int) d m (by omega)
  have HEL : Hid (∀ i, El (m : Int) ((wh (isRt (m : Int) d) m).getD i 0)) := Lib.hid (wh_els h)
  have HFL : Hid (fl (fun i => (wh (isRt (m : Int) d) m).getD i 0) (wh (isRt (m : Int) d) m).length = wh (isRt (m : Int) d) m) := Lib.hid (fl_self _)
  generalize wh (isRt (m : Int) d) m = r at *
  have HM := Lib.hid (fun g w (hg : g < w.heap.size) he => mappedEI1 (m : Int) g 15 (fun i => r.getD i 0) r.length w h hg he (fun i _ => HEL.out i) (by omega))
  rw [HFL.out] at HM
  have HL := Lib.hid (fun cs w (hr : RV cs (m : Int) r) => rootsList cs (m : Int) r w hr (by omega))
  clear h hv
  go_enter Try.func6, Try.ntmps6
  go_wp2_with fail
  refine (HF.out _).mono ?_
  rintro e w1 ⟨rfl, hb1⟩
  obtain ⟨hc1, hf1⟩ := bcell hb1; have hz1 := hb1.size; (try simp at hz1); have HB1 := Lib.hid hb1; clear hb1
  go_wp2_with fail
  refine (HX.out _).mono ?_
  rintro e w2 ⟨rfl, hb2⟩
  obtain ⟨hc2, hf2⟩ := bcell hb2; have hz2 := hb2.size; (try simp at hz2); have HB2 := Lib.hid hb2; clear hb2
  go_wp2_with fail
  refine (HR.out _).mono ?_
  rintro e w3 ⟨cs, rfl, hrv, hb3⟩
  obtain ⟨hc3, hf3⟩ := bcell hb3; have hz3 := hb3.size; (try simp at hz3); have HB3 := Lib.hid hb3; clear hb3
  have HRV := Lib.hid hrv; clear hrv
  go_wp2_with fail
  refine (HL.out cs _ HRV.out).mono ?_
  rintro e w4 ⟨g, rfl, hg4, hgl4, he4, hb4⟩
  obtain ⟨hc4, hf4⟩ := bcell hb4; have hz4 := hb4.size; (try simp at hz4); have HB4 := Lib.hid hb4; clear hb4
  have HE4 := Lib.hid he4; clear he4
  go_wp2_with fail
  refine (HM.out g _ hgl4 HE4.out).mono ?_
  rintro e w5 ⟨v5, rfl, hr5, hb5⟩
  obtain ⟨hc5, hf5⟩ := bcell hb5; have hz5 := hb5.size; (try simp at hz5); have HB5 := Lib.hid hb5; clear hb5
  have HR5 := Lib.hid hr5; clear hr5
  go_wp2
  go_ret2
  have hb1 := HB1.out
  have hb2 := HB2.out
  have hb3 := HB3.out
  have hb4 := HB4.out
  have hb5 := HB5.out
  exact ⟨_, rfl, HR5.out.mono (by (try simp); omega), by (repeat' (first | (with_reducible assumption) | (with_reducible exact Below.refl _ _) | (with_reducible refine below_drewN ?_ _) | (with_reducible refine Below.drew ?_) | (with_reducible refine Below.alloc ?_ ?_ _) | (with_reducible refine Below.setCell ?_ ?_ _) | (with_reducible refine Below.trans ?_ (Below.mono (by assumption) ?_)) | (with_reducible exact Nat.le_refl _) | (with_reducible assumption) | omega | (simp; omega) | (simp; done)))⟩
theorem key_RootsOfUnity (q d : Int) : ∃ (r : List Int) (o : Bool), r.length ≤ 1048576 ∧ (∀ (w : World), Calls Try.prog 5 #[.int .i64 q, .int .i64 d] w fun e w' => ∃ v, e = .returned (.tuple #[v, .bool o]) ∧ Row w' w.heap.size v r ∧ Below w.heap.size w w') ∧
      (∀ (w : World), Calls Try.prog 6 #[.int .i64 q, .int .i64 d] w fun e w' => ∃ v, e = .returned (.tuple #[v, .bool o]) ∧ Row w' w.heap.size v r ∧ Below w.heap.size w w') := by
  cases h : dvd q d with
  | false => exact ⟨[], false, by simp, fun w => (spec_RootsOfUnity_no q d w h).mono fun _ _ ⟨he, hb⟩ => ⟨_, he, Row.nil _ _, hb⟩, fun w => (impl_RootsOfUnity_no q d w h).mono fun _ _ ⟨he, hb⟩ => ⟨_, he, Row.nil _ _, hb⟩⟩
  | true =>
    obtain ⟨m, k, rfl, rfl, hs, h1, h2, _⟩ := dvd_nat h
    have hq := isSz_le (m : Int) hs
    exact ⟨_, true, by have := wh_len (isRt (m : Int) k) m; omega, fun w => spec_RootsOfUnity_yes m k w hs h (by omega), fun w => impl_RootsOfUnity_yes m k w hs h h1 (by omega)⟩
set_option maxRecDepth 100000 in
set_option maxHeartbeats 4000000 in
/-- laws.FnExactRootsOfUnity. -/
theorem walk_FnExactRootsOfUnity (q : Int) (d : Int) (w : World) (_h_q : (Lit.int .i64 q).wf = true) (_h_d : (Lit.int .i64 d).wf = true) :
    Calls Try.prog 3 #[.int .i64 q, .int .i64 d] w fun e w' => e = .returned (.bool true) ∧ Below w.heap.size w w' := by
  clear _h_q
  clear _h_d
  obtain ⟨r, o, hr, k1, k2⟩ := key_RootsOfUnity q d
  have K1 := Lib.hid k1; clear k1
  have K2 := Lib.hid k2; clear k2
  have HB0 : Hid (Below w.heap.size w w) := Lib.hid (Below.refl _ _)
  go_enter Try.func3, Try.ntmps3
  go_wp2_with fail
  refine (K1.out _ ).mono ?_
  rintro e w1 ⟨v_sp, rfl, hrw1, hbw1⟩
  have hzw1 : w.heap.size ≤ w1.heap.size := hbw1.size
  have HBw1 : Hid (Below w.heap.size w w1) := Lib.hid (HB0.out.trans (hbw1.mono HB0.out.size))
  have hww1 := HBw1.out.size
  clear hbw1 HB0
  have R_sp_w1 := Lib.hid hrw1; clear hrw1
  have lt_sp : Hid (∀ g, v_sp.ownBlock = some g → w.heap.size ≤ g ∧ g < w1.heap.size) := Lib.hid R_sp_w1.out.lt
  go_wp2_with fail
  refine (K2.out _ ).mono ?_
  rintro e w2 ⟨v_im, rfl, hrw2, hbw2⟩
  have hzw2 : w1.heap.size ≤ w2.heap.size := hbw2.size
  have R_sp_w2 := Lib.hid (R_sp_w1.out.below hbw2)
  clear R_sp_w1
  have HBw2 : Hid (Below w.heap.size w w2) := Lib.hid (HBw1.out.trans (hbw2.mono HBw1.out.size))
  have hww2 := HBw2.out.size
  clear hbw2 HBw1
  have R_im_w2 := Lib.hid hrw2; clear hrw2
  have lt_im : Hid (∀ g, v_im.ownBlock = some g → w1.heap.size ≤ g ∧ g < w2.heap.size) := Lib.hid R_im_w2.out.lt
  go_wp2_with fail
  refine (eq_same v_im v_sp r _ _ _ R_im_w2.out R_sp_w2.out (by omega)).mono ?_
  rintro e w3 ⟨rfl, hbw3⟩
  have hzw3 : w2.heap.size ≤ w3.heap.size := hbw3.size
  have R_sp_w3 := Lib.hid (R_sp_w2.out.below hbw3)
  clear R_sp_w2
  have R_im_w3 := Lib.hid (R_im_w2.out.below hbw3)
  clear R_im_w2
  have HBw3 : Hid (Below w.heap.size w w3) := Lib.hid (HBw2.out.trans (hbw3.mono HBw2.out.size))
  have hww3 := HBw3.out.size
  clear hbw3 HBw2
  go_wp2_with fail
  refine (mark_any v_im r _ (1) _ R_im_w3.out (by omega) (by omega) (by omega)).mono ?_
  rintro e w4 ⟨rfl, hrw4, hgw4⟩
  have hzw4 : w3.heap.size ≤ w4.heap.size := hgw4.size
  have R_sp_w4 := Lib.hid (R_sp_w3.out.keep (w' := w4) fun g hg => hgw4.block g (R_sp_w3.out.lt g hg).2 fun e => by have h1 := lt_sp.out g hg; have h2 := lt_im.out g e.symm; omega)
  clear R_sp_w3
  have HBw4 : Hid (Below w.heap.size w w4) := Lib.hid (Below.grown HBw3.out hgw4 (by omega) (fun g e => by have h2 := lt_im.out g e; omega))
  have hww4 := HBw4.out.size
  have R_im_w4 := Lib.hid hrw4
  clear hrw4 hgw4 HBw3 R_im_w3
  go_wp2_with fail
  refine (held_any v_im r.length _ (1) _ R_im_w4.out (by omega) (by omega) (by omega)).mono ?_
  rintro e wx1 ⟨rfl, rfl⟩
  go_wp2_with fail
  refine (K2.out _ ).mono ?_
  rintro e w5 ⟨v_im2, rfl, hrw5, hbw5⟩
  have hzw5 : w4.heap.size ≤ w5.heap.size := hbw5.size
  have R_sp_w5 := Lib.hid (R_sp_w4.out.below hbw5)
  clear R_sp_w4
  have R_im_w5 := Lib.hid (R_im_w4.out.below hbw5)
  clear R_im_w4
  have HBw5 : Hid (Below w.heap.size w w5) := Lib.hid (HBw4.out.trans (hbw5.mono HBw4.out.size))
  have hww5 := HBw5.out.size
  clear hbw5 HBw4
  have R_im2_w5 := Lib.hid hrw5; clear hrw5
  have lt_im2 : Hid (∀ g, v_im2.ownBlock = some g → w4.heap.size ≤ g ∧ g < w5.heap.size) := Lib.hid R_im2_w5.out.lt
  go_wp2_with fail
  refine (eq_same v_im2 v_sp r _ _ _ R_im2_w5.out R_sp_w5.out (by omega)).mono ?_
  rintro e w6 ⟨rfl, hbw6⟩
  have hzw6 : w5.heap.size ≤ w6.heap.size := hbw6.size
  have R_sp_w6 := Lib.hid (R_sp_w5.out.below hbw6)
  clear R_sp_w5
  have R_im_w6 := Lib.hid (R_im_w5.out.below hbw6)
  clear R_im_w5
  have R_im2_w6 := Lib.hid (R_im2_w5.out.below hbw6)
  clear R_im2_w5
  have HBw6 : Hid (Below w.heap.size w w6) := Lib.hid (HBw5.out.trans (hbw6.mono HBw5.out.size))
  have hww6 := HBw6.out.size
  clear hbw6 HBw5
  go_wp2_with fail
  refine (held_any v_im r.length _ (1) _ R_im_w6.out (by omega) (by omega) (by omega)).mono ?_
  rintro e wx2 ⟨rfl, rfl⟩
  go_wp2
  go_ret
  exact ⟨rfl, HBw6.out⟩
end Go.Proofs.Ytkjpkdecoeoghaa
