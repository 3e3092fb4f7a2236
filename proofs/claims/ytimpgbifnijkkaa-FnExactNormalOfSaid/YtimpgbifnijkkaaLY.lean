/- NormalOf, of both, by contracts; the walk of its law. -/
import Derived.Test.YtimpgbifnijkkaaLX
import Derived.Test.YtimpgbifnijkkaaKQ
import Derived.Test.YtimpgbifnijkkaaLD
import Derived.Deep.RegionHeld3
namespace Go.Proofs.Ytimpgbifnijkkaa
open Go.RowKit
theorem Row.litS (w : World) (a : Int) : Row (w.alloc (.cells #[.int .i64 a, .int .i64 1] 3)) w.heap.size (.slice (some ⟨w.heap.size, 0, none⟩) 2 2) (fl (sft a) 2) := by
  have := World.ownsRow_lit (base := w.heap.size) (e := 3) (size := 1) w #[.int .i64 a, .int .i64 1] 2 (Nat.le_refl _) (by unfold maxLen; omega) rfl
  exact this
/-- A good polynomial of a degree of at least 1. -/
theorem good_lead {m : Nat} {l : List Int} (h : isSz (m : Int) = true) (hg : good (m : Int) l = true) (h2 : 2 ≤ l.length) : Lead m (fun i => l.getD i 0) l.length := by
  have hlen := (good_parts hg).1
  have hel := all_el h (good_parts hg).2
  refine ⟨hel, h2, by omega, fun i hi => by simp [List.getD, List.getElem?_eq_none hi], ?_⟩
  have hl : 0 < l.getD (l.length - 1) 0 := by
    unfold good at hg
    simp only [Bool.and_eq_true, Bool.or_eq_true, decide_eq_true_eq] at hg
    rcases hg.2.2 with c | c
    · omega
    · exact c
  show l.getD (l.length - 1) 0 ≠ 0
  omega
/-- What is asked of the argument. -/
def nmlOK (q : Int) (l : List Int) : Bool := (isSz q && good q l) && decide (2 ≤ l.length)
theorem spec_NormalOf_no (q : Int) (v : Value) (l : List Int) (w : World) (hv : Sl w v l) (hl : l.length ≤ 1048576) (hn : nmlOK q l = false) :
    Calls Try.prog 27 #[.int .i64 q, v] w fun e w' => e = .returned (.tuple #[.slice none 0 0, .bool false]) ∧ Below w.heap.size w w' := by
  have hp := plGood_any q v l w hv hl
  obtain ⟨a, cap, rfl⟩ := hv.form
  unfold nmlOK at hn
  cases hg : isSz q && good q l with
  | false =>
    rw [hg] at hp
    have HP := Lib.hid hp
    clear hp hg hv hl hn
    generalize l.length = n at *
    go_enter Try.func27, Try.ntmps27
    go_wp2_with fail
    refine HP.out.mono ?_
    rintro e w1 ⟨rfl, hb1⟩
    go_wp2
    go_ret2
    exact ⟨rfl, hb1⟩
  | true =>
    rw [hg] at hp hn
    have hn2 : (l.length : Int) < 2 := by
      have : ¬ 2 ≤ l.length := by simpa using hn
      omega
    have HP := Lib.hid hp
    clear hp hg hv hl hn
    generalize l.length = n at *
    go_enter Try.func27, Try.ntmps27
    go_wp2_with fail
    refine HP.out.mono ?_
    rintro e w1 ⟨rfl, hb1⟩
    go_wp2
    go_ret2
    exact ⟨rfl, hb1⟩
theorem impl_NormalOf_no1 (q : Int) (v : Value) (l : List Int) (w : World) (hv : Sl w v l) (hl : l.length ≤ 1048576) (hg : (isSz q && good q l) = false) :
    Calls Try.prog 28 #[.int .i64 q, v] w fun e w' => e = .returned (.tuple #[.slice none 0 0, .bool false]) ∧ Below w.heap.size w w' := by
  have HP := Lib.hid (validPoly_no q v l w hv hl hg)
  clear hg hv hl
  go_enter Try.func28, Try.ntmps28
  go_wp2_with fail
  refine HP.out.mono ?_
  rintro e w1 ⟨rfl, hb1⟩
  have hz_hb1 := hb1.size; (try simp at hz_hb1)
  have HB1 := Lib.hid hb1; clear hb1
  go_wp2_with fail
  go_ret2
  have hb1 := HB1.out
  exact ⟨rfl, by (repeat' (first | (with_reducible assumption) | (with_reducible exact Below.refl _ _) | (with_reducible refine below_drewN ?_ _) | (with_reducible refine Below.drew ?_) | (with_reducible refine Below.alloc ?_ ?_ _) | (with_reducible refine Below.setCell ?_ ?_ _) | (with_reducible refine Below.trans ?_ (Below.mono (by assumption) ?_)) | (with_reducible exact Nat.le_refl _) | (with_reducible assumption) | omega | (simp; omega) | (simp; done)))⟩
set_option maxHeartbeats 4000000 in
set_option maxRecDepth 100000 in
theorem spec_NormalOf_y0 (m : Nat) (v : Value) (l : List Int) (w : World) (h : isSz (m : Int) = true) (hv : Sl w v l) (hg : good (m : Int) l = true) (h2 : 2 ≤ l.length) (hd : ((l.length - 1 : Nat) : Int) % pr m = 0) :
    Calls Try.prog 27 #[.int .i64 m, v] w fun e w' => ∃ v', e = .returned (.tuple #[v', .bool true]) ∧ Row w' w.heap.size v' (nml m l.length (fun i => l.getD i 0)) ∧ Below w.heap.size w w' := by
  obtain ⟨i0, hi, iz0, iz1, iz2⟩ := info_parts Try.infoI
  have hq := isSz_le (m : Int) h
  have hpr := pr_bd (m : Int) h
  have hL0 := good_lead h hg h2
  have hlen := (good_parts hg).1
  have hp := plGood_any (m : Int) v l w hv (by omega)
  rw [h, hg] at hp
  have HP := Lib.hid hp
  have hL := (scale_lead h hL0).1
  change Lead m (mon1 m l.length (fun i => l.getD i 0)) l.length at hL
  have HINV := Lib.hid (fun w => fdInverse_any (m : Int) (l.getD (l.length - 1) 0) w h (hL0.el (l.length - 1)).1 (hL0.el (l.length - 1)).2)
  have HTM := Lib.hid (fun i w => fdTimes_any (m : Int) (invF m (l.getD (l.length - 1) 0)) (l.getD i 0) w h ((hL0.el (l.length - 1)).inv h).1 ((hL0.el (l.length - 1)).inv h).2 (hL0.el i).1 (hL0.el i).2)
  have HMN := Lib.hid (fun k w => fdPlus_any (m : Int) (mny m k) 1 w h (mny_el h k).1 (mny_el h k).2 (El.one h).1 (El.one h).2)
  have HMI := Lib.hid (fun w => fdInverse_any (m : Int) (mny m (l.length - 1)) w h (mny_el h _).1 (mny_el h _).2)
  have HPR := Lib.hid (fun w => fdPrime_any (m : Int) w h)
  have HG0 : Hid (∀ i, mulF m (invF m (l.getD (l.length - 1) 0)) (l.getD i 0) = mon1 m l.length (fun i => l.getD i 0) i) := Lib.hid fun _ => rfl
  have hnml : nml m l.length (fun i => l.getD i 0) = fl (upd (nmlS m l.length (mon1 m l.length (fun i => l.getD i 0))).1 0 0) (nmlS m l.length (mon1 m l.length (fun i => l.getD i 0))).2 := rfl
  rw [hnml]
  have HOP := Lib.hid (hv.open rfl (by omega))
  have hLS := nmlS_lead h hL
  obtain ⟨a, cap, rfl⟩ := hv.form
  clear hp hv hg hL0 hnml
  generalize mon1 m l.length (fun i => l.getD i 0) = g at *
  generalize hn : l.length = n at *
  clear hn
  obtain ⟨b, off, cap', hv', hb, hc⟩ := HOP.out
  cases hv'
  have HC := Lib.hid hc
  clear HOP hc
  have hlast := HC.out (n - 1) (by omega)
  have hz1 : ((n : Int) - 1) = ((n - 1 : Nat) : Int) := by omega
  have hnlt : ¬ (n : Int) < 2 := by omega
  have hle := hL.le
  have HLES := Lib.hid (fun i w => fdLess_any (m : Int) 0 (g i) w h (Int.le_refl _) (El.zero h).2 (hL.el i).1 (hL.el i).2)
  have HTB := Lib.hid (fun w => fdTimes_any (m : Int) (subF m 0 (g (n - 2))) (invF m (mny m (n - 1))) w h ((hL.el _).neg h).1 ((hL.el _).neg h).2 ((mny_el h _).inv h).1 ((mny_el h _).inv h).2)
  have HBD : Hid (mulF m (subF m 0 (g (n - 2))) (invF m (mny m (n - 1))) = nmlB m n g) := Lib.hid rfl
  generalize l.getD (n - 1) 0 = L at *
  generalize invF m L = a at *
  have hdne : ((((n - 1 : Nat) : Int) % pr (m : Int)) != 0) = false := by simpa using hd
  have hSS : nmlS m n g = (g, n) := by unfold nmlS; rw [if_pos hd]
  rw [hSS]
  clear hLS hL h
  generalize pr (m : Int) = pp at *
  go_enter Try.func27, Try.ntmps27
  go_wp2_with fail
  refine HP.out.mono ?_
  rintro e w1 ⟨rfl, hb1⟩
  have hl1 := (hb1.cell (p := ⟨b, off + (n - 1), none⟩) hb).trans hlast
  have HB1 := Lib.hid hb1; clear hb1
  go_wp2_with fail
  refine (HINV.out _).mono ?_
  rintro e w2 ⟨rfl, hb2⟩
  have HB2 : Hid (Below w.heap.size w w2) := Lib.hid (HB1.out.trans (hb2.mono HB1.out.size))
  clear hb2
  go_wp2_with fail
  go_loopw [8, 36] (fun vo vi wr => ∃ k : Nat, k ≤ n ∧ vi = .int .i64 k ∧ Row wr w.heap.size vo (fl g k) ∧ Below w.heap.size w wr) (fun _ vi _ => n - (intOf vi).toNat)
  case atStart => exact ⟨0, Nat.zero_le _, rfl, Row.nil _ _, HB2.out⟩
  case round =>
    obtain ⟨k, hk, rfl, hr, hbw⟩ := hrel
    have HLN := Lib.hid (fl_len g k)
    by_cases hlt : k < n
    · have hck := (hbw.cell (p := ⟨b, off + k, none⟩) hb).trans (HC.out k hlt)
      have HBW := Lib.hid hbw; clear hbw
      have HR := Lib.hid hr; clear hr
      have HTM' := Lib.hid (fun w => HTM.out k w)
      rw [HG0.out k] at HTM'
      generalize l.getD k 0 = x at *
      go_wp2_with fail
      refine (HTM'.out _).mono ?_
      rintro e w5 ⟨rfl, hb5⟩
      have HR5 := Lib.hid (HR.out.below hb5)
      have HB5 := Lib.hid (HBW.out.trans (hb5.mono HBW.out.size))
      have hz5 := HB5.out.size
      clear hb5
      have HSC := Lib.hid (fl_succ g k)
      generalize g k = y at *
      go_wp2_with (at_builtin; refine wpList_append_own _ rfl _ _ 22 rfl w.heap.size 3 i0 (.int .i64 0) 1 8 Try.underlying22 hi iz0 iz1 iz2 rfl (by decide) _ _ _ rfl (World.ownsRow.alloc HR5.out _) ⟨w5.heap.size, 0, none⟩ 1 1 [.int .i64 y] rfl rfl ?c1 ?c2 ?c3 ?c4 ?c5 ?_)
      case c1 => exact cell_one_new _ _ _
      case c2 => first | rfl | (intro u hu; simp at hu; subst hu; rfl)
      case c3 => have := HLN.out; unfold maxLen; omega
      case c4 => have := HLN.out; omega
      case c5 => first | omega | (simp; omega)
      intro v' w6 hown hgrow _
      have HR6 := Lib.hid (Row.appended hown)
      have hb : Below w.heap.size w (w5.alloc (.cells #[.int .i64 y] 3)) := HB5.out.alloc (by omega) _
      have HB6 := Lib.hid (hb.grown hgrow (by simp; omega) (fun g hg => (HR5.out.lt g hg).1))
      clear hown hgrow hb
      go_wp2
      go_roundw
      case rel => exact ⟨k + 1, by omega, by go_num, by rw [HSC.out]; exact HR6.out, HB6.out⟩
      case measure => simp [intOf]; omega
    · obtain rfl : n = k := by omega
      have HBW := Lib.hid hbw; clear hbw
      have HR := Lib.hid hr; clear hr
      have hzw := HBW.out.size
      obtain ⟨gg, cp, hvo, hgB, hgl⟩ := HR.out.form (by rw [fl_len]; omega)
      rw [fl_len] at hvo
      subst hvo
      go_wp2_with fail
      refine (HPR.out _).mono ?_
      rintro e w7 ⟨rfl, rfl⟩
      have f2 := HR.out.frozen (by rw [fl_len]) 0
      have e2 := Row.cell (l := fl g n) (cap := cp) (by rw [fl_len]; exact HR.out) 0 (by rw [fl_len]; omega)
      generalize (fl g n).getD 0 0 = z at *
      have HR3 := Lib.hid (HR.out.store (by rw [fl_len]) 0 0)
      have HB3 := Lib.hid (HBW.out.setCell (p := ⟨gg, 0, none⟩) hgB (.int .i64 0))
      go_wp2
      go_ret2
      exact ⟨_, rfl, by rw [← fl_set]; exact HR3.out, HB3.out⟩
set_option maxHeartbeats 4000000 in
set_option maxRecDepth 100000 in
theorem spec_NormalOf_y1 (m : Nat) (v : Value) (l : List Int) (w : World) (h : isSz (m : Int) = true) (hv : Sl w v l) (hg : good (m : Int) l = true) (h2 : 2 ≤ l.length) (hd : ¬ ((l.length - 1 : Nat) : Int) % pr m = 0) :
    Calls Try.prog 27 #[.int .i64 m, v] w fun e w' => ∃ v', e = .returned (.tuple #[v', .bool true]) ∧ Row w' w.heap.size v' (nml m l.length (fun i => l.getD i 0)) ∧ Below w.heap.size w w' := by
  obtain ⟨i0, hi, iz0, iz1, iz2⟩ := info_parts Try.infoI
  have hq := isSz_le (m : Int) h
  have hpr := pr_bd (m : Int) h
  have hL0 := good_lead h hg h2
  have hlen := (good_parts hg).1
  have hp := plGood_any (m : Int) v l w hv (by omega)
  rw [h, hg] at hp
  have HP := Lib.hid hp
  have hL := (scale_lead h hL0).1
  change Lead m (mon1 m l.length (fun i => l.getD i 0)) l.length at hL
  have HINV := Lib.hid (fun w => fdInverse_any (m : Int) (l.getD (l.length - 1) 0) w h (hL0.el (l.length - 1)).1 (hL0.el (l.length - 1)).2)
  have HTM := Lib.hid (fun i w => fdTimes_any (m : Int) (invF m (l.getD (l.length - 1) 0)) (l.getD i 0) w h ((hL0.el (l.length - 1)).inv h).1 ((hL0.el (l.length - 1)).inv h).2 (hL0.el i).1 (hL0.el i).2)
  have HMN := Lib.hid (fun k w => fdPlus_any (m : Int) (mny m k) 1 w h (mny_el h k).1 (mny_el h k).2 (El.one h).1 (El.one h).2)
  have HMI := Lib.hid (fun w => fdInverse_any (m : Int) (mny m (l.length - 1)) w h (mny_el h _).1 (mny_el h _).2)
  have HPR := Lib.hid (fun w => fdPrime_any (m : Int) w h)
  have HG0 : Hid (∀ i, mulF m (invF m (l.getD (l.length - 1) 0)) (l.getD i 0) = mon1 m l.length (fun i => l.getD i 0) i) := Lib.hid fun _ => rfl
  have hnml : nml m l.length (fun i => l.getD i 0) = fl (upd (nmlS m l.length (mon1 m l.length (fun i => l.getD i 0))).1 0 0) (nmlS m l.length (mon1 m l.length (fun i => l.getD i 0))).2 := rfl
  rw [hnml]
  have HOP := Lib.hid (hv.open rfl (by omega))
  have hLS := nmlS_lead h hL
  obtain ⟨a, cap, rfl⟩ := hv.form
  clear hp hv hg hL0 hnml
  generalize mon1 m l.length (fun i => l.getD i 0) = g at *
  generalize hn : l.length = n at *
  clear hn
  obtain ⟨b, off, cap', hv', hb, hc⟩ := HOP.out
  cases hv'
  have HC := Lib.hid hc
  clear HOP hc
  have hlast := HC.out (n - 1) (by omega)
  have hz1 : ((n : Int) - 1) = ((n - 1 : Nat) : Int) := by omega
  have hnlt : ¬ (n : Int) < 2 := by omega
  have hle := hL.le
  have HLES := Lib.hid (fun i w => fdLess_any (m : Int) 0 (g i) w h (Int.le_refl _) (El.zero h).2 (hL.el i).1 (hL.el i).2)
  have HTB := Lib.hid (fun w => fdTimes_any (m : Int) (subF m 0 (g (n - 2))) (invF m (mny m (n - 1))) w h ((hL.el _).neg h).1 ((hL.el _).neg h).2 ((mny_el h _).inv h).1 ((mny_el h _).inv h).2)
  have HBD : Hid (mulF m (subF m 0 (g (n - 2))) (invF m (mny m (n - 1))) = nmlB m n g) := Lib.hid rfl
  generalize l.getD (n - 1) 0 = L at *
  generalize invF m L = a at *
  have hdne : ((((n - 1 : Nat) : Int) % pr (m : Int)) != 0) = true := by simpa using hd
  have hSS : nmlS m n g = cmp m g n (sft (nmlB m n g)) 2 n := by unfold nmlS; rw [if_neg hd]
  have HCP := Lib.hid (fun v1 v2 w1 (hv1 : Sl w1 v1 (fl g n)) (hv2 : Sl w1 v2 (fl (sft (nmlB m n g)) 2)) => plCompose_any m n 2 v1 v2 g (sft (nmlB m n g)) w1 h hv1 hv2 hL.el (sft_el h (nmlB_el h hL.el)) (by omega) (by omega))
  rw [← hSS] at HCP
  have hS2 := hLS.two
  have hSl := hLS.le
  have HL2 := Lib.hid (fun w => Row.litS w (nmlB m n g))
  generalize nmlS m n g = S at *
  rw [HBD.out] at HTB
  generalize nmlB m n g = bb at *
  clear hSS HBD
  have hz2 : ((n - 1 : Nat) : Int) - 1 = ((n - 2 : Nat) : Int) := by omega
  clear hLS hL h
  generalize pr (m : Int) = pp at *
  go_enter Try.func27, Try.ntmps27
  go_wp2_with fail
  refine HP.out.mono ?_
  rintro e w1 ⟨rfl, hb1⟩
  have hl1 := (hb1.cell (p := ⟨b, off + (n - 1), none⟩) hb).trans hlast
  have HB1 := Lib.hid hb1; clear hb1
  go_wp2_with fail
  refine (HINV.out _).mono ?_
  rintro e w2 ⟨rfl, hb2⟩
  have HB2 : Hid (Below w.heap.size w w2) := Lib.hid (HB1.out.trans (hb2.mono HB1.out.size))
  clear hb2
  go_wp2_with fail
  go_loopw [8, 36] (fun vo vi wr => ∃ k : Nat, k ≤ n ∧ vi = .int .i64 k ∧ Row wr w.heap.size vo (fl g k) ∧ Below w.heap.size w wr) (fun _ vi _ => n - (intOf vi).toNat)
  case atStart => exact ⟨0, Nat.zero_le _, rfl, Row.nil _ _, HB2.out⟩
  case round =>
    obtain ⟨k, hk, rfl, hr, hbw⟩ := hrel
    have HLN := Lib.hid (fl_len g k)
    by_cases hlt : k < n
    · have hck := (hbw.cell (p := ⟨b, off + k, none⟩) hb).trans (HC.out k hlt)
      have HBW := Lib.hid hbw; clear hbw
      have HR := Lib.hid hr; clear hr
      have HTM' := Lib.hid (fun w => HTM.out k w)
      rw [HG0.out k] at HTM'
      generalize l.getD k 0 = x at *
      go_wp2_with fail
      refine (HTM'.out _).mono ?_
      rintro e w5 ⟨rfl, hb5⟩
      have HR5 := Lib.hid (HR.out.below hb5)
      have HB5 := Lib.hid (HBW.out.trans (hb5.mono HBW.out.size))
      have hz5 := HB5.out.size
      clear hb5
      have HSC := Lib.hid (fl_succ g k)
      generalize g k = y at *
      go_wp2_with (at_builtin; refine wpList_append_own _ rfl _ _ 22 rfl w.heap.size 3 i0 (.int .i64 0) 1 8 Try.underlying22 hi iz0 iz1 iz2 rfl (by decide) _ _ _ rfl (World.ownsRow.alloc HR5.out _) ⟨w5.heap.size, 0, none⟩ 1 1 [.int .i64 y] rfl rfl ?c1 ?c2 ?c3 ?c4 ?c5 ?_)
      case c1 => exact cell_one_new _ _ _
      case c2 => first | rfl | (intro u hu; simp at hu; subst hu; rfl)
      case c3 => have := HLN.out; unfold maxLen; omega
      case c4 => have := HLN.out; omega
      case c5 => first | omega | (simp; omega)
      intro v' w6 hown hgrow _
      have HR6 := Lib.hid (Row.appended hown)
      have hb : Below w.heap.size w (w5.alloc (.cells #[.int .i64 y] 3)) := HB5.out.alloc (by omega) _
      have HB6 := Lib.hid (hb.grown hgrow (by simp; omega) (fun g hg => (HR5.out.lt g hg).1))
      clear hown hgrow hb
      go_wp2
      go_roundw
      case rel => exact ⟨k + 1, by omega, by go_num, by rw [HSC.out]; exact HR6.out, HB6.out⟩
      case measure => simp [intOf]; omega
    · obtain rfl : n = k := by omega
      have HBW := Lib.hid hbw; clear hbw
      have HR := Lib.hid hr; clear hr
      have hzw := HBW.out.size
      obtain ⟨gg, cp, hvo, hgB, hgl⟩ := HR.out.form (by rw [fl_len]; omega)
      rw [fl_len] at hvo
      subst hvo
      go_wp2_with fail
      refine (HPR.out _).mono ?_
      rintro e w7 ⟨rfl, rfl⟩
      go_wp2_with fail
      have HMS : Hid (∀ k, mny m (k + 1) = addF m (mny m k) 1) := Lib.hid fun _ => rfl
      have HM0 : Hid (mny m 0 = 0) := Lib.hid rfl
      go_loopw [13, 14] (fun vm vi ws => ∃ k : Nat, k ≤ n - 1 ∧ vi = .int .i64 k ∧ vm = .int .i64 (mny m k) ∧ Row ws w.heap.size (.slice (some ⟨gg, 0, none⟩) n cp) (fl g n) ∧ Below w.heap.size w ws) (fun _ vi _ => n - (intOf vi).toNat)
      case atStart => exact ⟨0, Nat.zero_le _, rfl, rfl, HR.out, HBW.out⟩
      case round =>
        obtain ⟨k, hk, rfl, rfl, hr, hbs⟩ := hrel
        have HR5 := Lib.hid hr; clear hr
        have HBS := Lib.hid hbs; clear hbs
        by_cases hlt : k < n - 1
        · have HMK := Lib.hid (fun w => HMN.out k w)
          rw [← HMS.out k] at HMK
          obtain ⟨y2, hy2⟩ : ∃ y2, mny m (k + 1) = y2 := ⟨_, rfl⟩
          rw [hy2] at HMK
          have HY2 := Lib.hid hy2; clear hy2
          generalize mny m k = y at *
          go_wp2_with fail
          refine (HMK.out _).mono ?_
          rintro e w8 ⟨rfl, hb8⟩
          have HR8 := Lib.hid (HR5.out.below hb8)
          have HB8 := Lib.hid (HBS.out.trans (hb8.mono HBS.out.size))
          clear hb8
          go_wp2
          go_roundw
          case rel => exact ⟨k + 1, by omega, by go_num, by rw [HY2.out], HR8.out, HB8.out⟩
          case measure => simp [intOf]; omega
        · obtain rfl : n - 1 = k := by omega
          have hzs := HBS.out.size
          have e5 := Row.cell (l := fl g n) (cap := cp) (by rw [fl_len]; exact HR5.out) (n - 2) (by rw [fl_len]; omega)
          rw [fl_get _ _ _ (show n - 2 < n by omega)] at e5
          have HLE' := Lib.hid (fun w => HLES.out (n - 2) w)
          generalize mny m (n - 1) = M at *
          generalize g (n - 2) = y at *
          go_wp2_with fail
          refine (HLE'.out _).mono ?_
          rintro e w8 ⟨rfl, hb8⟩
          have HR8 := Lib.hid (HR5.out.below hb8)
          have HB8 := Lib.hid (HBS.out.trans (hb8.mono HBS.out.size))
          clear hb8 e5
          go_wp2_with fail
          refine (HMI.out _).mono ?_
          rintro e w9 ⟨rfl, hb9⟩
          have HR9 := Lib.hid (HR8.out.below hb9)
          have HB9 := Lib.hid (HB8.out.trans (hb9.mono HB8.out.size))
          clear hb9
          go_wp2_with fail
          refine (HTB.out _).mono ?_
          rintro e w10 ⟨rfl, hb10⟩
          have HR10 := Lib.hid (HR9.out.below hb10)
          have HB10 := Lib.hid (HB9.out.trans (hb10.mono HB9.out.size))
          have hz10 := HB10.out.size
          clear hb10
          go_wp2_with fail
          refine (HCP.out _ _ _ (HR10.out.alloc _).sl (HL2.out _).sl).mono ?_
          rintro e w11 ⟨v11, rfl, hr11, hb11⟩
          obtain ⟨g11, cp11, hvo, hgB11, hgl11⟩ := hr11.form (by rw [fl_len]; omega)
          rw [fl_len] at hvo
          subst hvo
          have HB11 : Hid (Below w.heap.size w w11) := Lib.hid (HB10.out.trans ((show Below w10.heap.size w10 w11 by (repeat' (first | (with_reducible assumption) | (with_reducible exact Below.refl _ _) | (with_reducible refine below_drewN ?_ _) | (with_reducible refine Below.drew ?_) | (with_reducible refine Below.alloc ?_ ?_ _) | (with_reducible refine Below.setCell ?_ ?_ _) | (with_reducible refine Below.trans ?_ (Below.mono (by assumption) ?_)) | (with_reducible exact Nat.le_refl _) | (with_reducible assumption) | omega | (simp; omega) | (simp; done)))).mono (by omega)))
          have hr12 := hr11.mono (B' := w.heap.size) (by simp; omega)
          have f2 := hr12.frozen (by rw [fl_len]) 0
          have e2 := Row.cell (l := fl S.1 S.2) (cap := cp11) (by rw [fl_len]; exact hr12) 0 (by rw [fl_len]; omega)
          simp at hgB11
          generalize (fl S.1 S.2).getD 0 0 = z at *
          have HR13 := Lib.hid (hr12.store (by rw [fl_len]) 0 0)
          have HB13 := Lib.hid (HB11.out.setCell (p := ⟨g11, 0, none⟩) (by simp; omega) (.int .i64 0))
          clear hr11 hr12 hb11
          go_wp2
          go_ret2
          exact ⟨_, rfl, by rw [← fl_set]; exact HR13.out, HB13.out⟩
end Go.Proofs.Ytimpgbifnijkkaa
