/- The draw of tables (l1Cur.table), by contracts: some numbers, new; polynomials of surePoly are good. -/
import Derived.Test.YtljijnanmpajaaaGreatDP
import Derived.Test.YtljijnanmpajaaaGreatKL
namespace Go.Proofs.YtljijnanmpajaaaGreat
open Go.RowKit
theorem sn_lastZ {f : Nat → Int} : ∀ n, 0 < sn f n → f (sn f n - 1) ≠ 0
  | 0, h => absurd h (Nat.lt_irrefl 0)
  | n + 1, h => by
    unfold sn at h ⊢
    by_cases e : f n = 0
    · rw [if_pos e] at h ⊢
      exact sn_lastZ n h
    · rw [if_neg e]
      exact e
theorem good_short {m : Nat} {l : List Int} (hl : l.length ≤ m) (he : ∀ x ∈ l, El (m : Int) x) : good (m : Int) (fl (fun i => l.getD i 0) (sn (fun i => l.getD i 0) l.length)) = true := by
  have hs := sn_le (fun i => l.getD i 0) l.length
  have hel : ∀ i, i < l.length → El (m : Int) (l.getD i 0) := fun i hi => by
    rw [show l.getD i 0 = l[i] by simp [List.getD, hi]]
    exact he _ (List.getElem_mem _)
  have g2 : (fl (fun i => l.getD i 0) (sn (fun i => l.getD i 0) l.length)).all (inF (m : Int)) = true := List.all_eq_true.2 fun x hx => by
    obtain ⟨i, hi, rfl⟩ := List.mem_map.1 (show x ∈ (List.range _).map _ from hx)
    have := hel i (by have := List.mem_range.1 hi; omega)
    simpa [inF, El] using this
  have g1 : ((fl (fun i => l.getD i 0) (sn (fun i => l.getD i 0) l.length)).length : Int) ≤ m := by rw [fl_len]; omega
  by_cases h0 : 0 < (fl (fun i => l.getD i 0) (sn (fun i => l.getD i 0) l.length)).length
  · rw [good_last g1 g2 h0]
    rw [fl_len] at h0 ⊢
    refine decide_eq_true ?_
    rw [fl_get _ _ _ (by omega)]
    have h1 := sn_lastZ l.length h0
    have h2 := (hel (sn (fun i => l.getD i 0) l.length - 1) (by omega)).1
    omega
  · have e : fl (fun i => l.getD i 0) (sn (fun i => l.getD i 0) l.length) = [] := List.length_eq_zero_iff.1 (by omega)
    rw [e]
    exact good_nil _ (by omega)
set_option maxRecDepth 100000 in
set_option maxHeartbeats 8000000 in
/-- spec.l1Cur.surePoly. -/
theorem surePolyG_any (cb : Nat) (a : Option Addr) (n c k m : Nat) (w : World) (h : Cu w cb a n c k) (hk : k ≤ 600) (hs : isSz (m : Int) = true) :
    Calls Tryz.prog 162 #[.pointer (some ⟨cb, 0, none⟩), .int .i64 m] w fun e w' => ∃ v l, e = .returned v ∧ l.length ≤ 16 ∧ good (m : Int) l = true ∧ Row w' w.heap.size v l ∧ Cu w' cb a n c (k + 40) ∧ Kp cb w w' := by
  have hq := isSz_le (m : Int) hs
  obtain ⟨i0, hi, hz0, hz1, hz2⟩ := info_parts Tryz.infoI
  have HCL := Lib.hid h.lt
  have HCU := Lib.hid h
  have HA := Lib.hid (fun (l : List Int) (hl : l.length = 7) hb o ho => among_newB cb a n c k 7 l w h (by omega) hl (by omega) (by omega) o ho hb)
  have HP := Lib.hid (fun k w' (hc : Cu w' cb a n c k) (hk : k ≤ 800) => pick_any cb a n c k m w' hc (by omega))
  have HSH := Lib.hid (fun v' (l : List Int) B w' (hr : Row w' B v' l) (hl : l.length ≤ 16) => plShort_row v' l.length B (fun i => l.getD i 0) w' ((fl_of l) ▸ hr) (by omega))
  have hq3 : (m : Int) / 2 ≤ 16 := by omega
  clear hs h
  go_enter Tryz.func162, Tryz.ntmps162
  go_wp2_with fail
  refine (HA.out [0, 1, 2, 3, 4, (m : Int) / 2, (m : Int)] rfl (by intro x hx; simp at hx; omega) _ rfl).mono ?_
  rintro e w1 ⟨r, rfl, hr16, hc1, hk1⟩
  have HC1 := Lib.hid hc1; clear hc1
  have HK1 := Lib.hid hk1; clear hk1
  go_wp2_with fail
  go_loopw [5, 6] (fun vf vk wr => ∃ l : List Int, l.length ≤ m ∧ (∀ x ∈ l, El (m : Int) x) ∧ Row wr w.heap.size vf l ∧ vk = .int .i64 (r - (l.length : Int)) ∧ Cu wr cb a n c (k + 2 + 2 * l.length) ∧ Kp cb w wr) (fun _ vk _ => (intOf vk).toNat)
  case atStart => exact ⟨[], Nat.zero_le _, by simp, Row.nil _ _, by simp, HC1.out, HK1.out⟩
  case round =>
    obtain ⟨l, hl, hel, hrow, rfl, hcu, hkp⟩ := hrel
    have HEL := Lib.hid hel; clear hel
    obtain ⟨af, cf, rfl⟩ := hrow.sl.form
    have HR := Lib.hid hrow; clear hrow
    have HCu := Lib.hid hcu; clear hcu
    have HKp := Lib.hid hkp; clear hkp
    have hszr : w.heap.size ≤ wr.heap.size := HKp.out.1.size
    by_cases h1 : 0 < r - (l.length : Int)
    · have hwr : IntKind.i64.wrap (r - (l.length : Int) - 1) = r - (l.length : Int) - 1 := IntWalk.i64_in _ (by omega)
      by_cases h2 : l.length < m
      · go_wp2_with fail
        refine (HP.out _ _ HCu.out (by omega)).mono ?_
        rintro e w2 ⟨x, rfl, _, hx2, hc2, hk2⟩
        have HX2 := Lib.hid (hx2 (by omega)); clear hx2
        have HR2 := Lib.hid (HR.out.kp hk2 HCL.out)
        have HK2 := Lib.hid (HKp.out.trans hk2)
        have HC2 := Lib.hid hc2
        clear hc2 hk2
        have hsz2 : w.heap.size ≤ w2.heap.size := HK2.out.1.size
        have hlm : l.length + 1 ≤ maxLen := by unfold maxLen; omega
        go_wp2_with (at_builtin; refine wpList_append_own _ rfl _ _ 24 rfl w.heap.size 3 i0 (.int .i64 0) 1 8 Tryz.underlying24 hi hz0 hz1 hz2 rfl (by decide) _ _ _ rfl (World.ownsRow.alloc HR2.out _) ⟨w2.heap.size, 0, none⟩ 1 1 [.int .i64 x] rfl rfl ?c1 ?c2 ?c3 ?c4 ?c5 ?_)
        case c1 => exact cell_one_new _ _ _
        case c2 => intro u hu; simp at hu; subst hu; rfl
        case c3 => exact hlm
        case c4 => omega
        case c5 => simp; omega
        intro v' w3 hown hgrow _
        have HR3 := Lib.hid (Row.appended hown)
        have HB3 : Hid (Below w.heap.size w2 w3) := Lib.hid (((Below.refl _ _).alloc hsz2 (.cells #[.int .i64 x] 3)).grown hgrow (by simp; omega) (fun g hg => (HR2.out.lt g hg).1))
        have HC3 := Lib.hid (Cu.own HCU.out HC2.out HB3.out)
        have HK3 := Lib.hid (HK2.out.own (Nat.le_of_lt HCL.out) rfl HB3.out)
        clear hown hgrow
        go_wp2
        go_roundw
        case rel => exact ⟨l ++ [x], by rw [List.length_append]; exact h2, fun y hy => by rcases List.mem_append.1 hy with h | h; exact HEL.out y h; rw [List.mem_singleton.1 h]; exact HX2.out, HR3.out, by rw [List.length_append]; simp; omega, by rw [List.length_append]; exact HC3.out, HK3.out⟩
        case measure => simp [intOf]; omega
      · go_wp2_with fail
        refine (HSH.out _ l w.heap.size _ HR.out (by omega)).mono ?_
        rintro e w4 ⟨v4, rfl, hr4, hb4⟩
        have HR4 := Lib.hid hr4; clear hr4
        have HB4 := Lib.hid hb4; clear hb4
        go_wp2
        go_ret
        exact ⟨_, _, rfl, by have := sn_le (fun i => l.getD i 0) l.length; rw [fl_len]; omega, good_short hl HEL.out, HR4.out.mono hszr, (HCu.out.kp HB4.out).mono (by omega), HKp.out.trans (Kp.below HB4.out (by have := HCL.out; omega))⟩
    · go_wp2_with fail
      refine (HSH.out _ l w.heap.size _ HR.out (by omega)).mono ?_
      rintro e w4 ⟨v4, rfl, hr4, hb4⟩
      have HR4 := Lib.hid hr4; clear hr4
      have HB4 := Lib.hid hb4; clear hb4
      go_wp2
      go_ret
      exact ⟨_, _, rfl, by have := sn_le (fun i => l.getD i 0) l.length; rw [fl_len]; omega, good_short hl HEL.out, HR4.out.mono hszr, (HCu.out.kp HB4.out).mono (by omega), HKp.out.trans (Kp.below HB4.out (by have := HCL.out; omega))⟩
set_option maxRecDepth 100000 in
set_option maxHeartbeats 8000000 in
/-- spec.l1Cur.table. -/
theorem table_any (cb : Nat) (a : Option Addr) (n c k : Nat) (q : Int) (w : World) (h : Cu w cb a n c k) (hk : k ≤ 500) :
    Calls Tryz.prog 99 #[.pointer (some ⟨cb, 0, none⟩), .int .i64 q] w fun e w' => ∃ v l, e = .returned v ∧ l.length ≤ 48 ∧ Row w' w.heap.size v l ∧ Cu w' cb a n c (k + 60) ∧ Kp cb w w' := by
  obtain ⟨i0, hi, hz0, hz1, hz2⟩ := info_parts Tryz.infoI
  have HCL := Lib.hid h.lt
  have HCU := Lib.hid h
  have HSZ := Lib.hid (fun w => fdSize_any q w)
  cases hs : isSz q with
  | false =>
    rw [hs] at HSZ
    clear hs h
    go_enter Tryz.func99, Tryz.ntmps99
    go_wp2_with fail
    refine (HSZ.out _).mono ?_
    rintro e w1 ⟨rfl, hb1⟩
    have HB1 := Lib.hid hb1; clear hb1
    have hsz1 := HB1.out.size
    go_wp2
    go_ret
    have hb2 : Below w.heap.size w (w1.alloc (.cells #[.int .i64 0, .int .i64 1] 3)) := HB1.out.alloc hsz1 _
    refine ⟨_, [0, 1], rfl, by simp, Row.heap (by rw [heap_alloc_new]; rfl) hsz1 rfl (by unfold maxLen; omega), (HCU.out.kp hb2).mono (by omega), Kp.below hb2 (Nat.le_of_lt HCL.out)⟩
  | true =>
    rw [hs] at HSZ
    have hq := isSz_le q hs
    obtain ⟨m, rfl⟩ := Int.eq_ofNat_of_zero_le (show 0 ≤ q by omega)
    have HSP := Lib.hid (fun w' (hc : Cu w' cb a n c k) => surePolyG_any cb a n c k m w' hc (by omega) hs)
    have HP := Lib.hid (fun k z w' (hc : Cu w' cb a n c k) (hk : k ≤ 800) => pick_any cb a n c k z w' hc (by omega))
    have HA := Lib.hid (fun k (l : List Int) w' (hc : Cu w' cb a n c k) (hk : k ≤ 800) (hl : l.length = 4) o ho => among_new cb a n c k 4 l w' hc (by omega) hl (by omega) (by omega) o ho)
    have HPV := Lib.hid (fun v l w (hv : Sl w v l) (hg : good (m : Int) l = true) => plValues_any (m : Int) v l w hs hv hg)
    clear hs h
    go_enter Tryz.func99, Tryz.ntmps99
    go_wp2_with fail
    refine (HSZ.out _).mono ?_
    rintro e w1 ⟨rfl, hb1⟩
    have HC1 := Lib.hid (HCU.out.kp hb1)
    have HK1 := Lib.hid (Kp.below hb1 (Nat.le_of_lt HCL.out))
    have hsz1 := hb1.size
    clear hb1
    go_wp2_with fail
    refine (HSP.out _ HC1.out).mono ?_
    rintro e w2 ⟨v2, l2, rfl, hl2, hg2, hr2, hc2, hk2⟩
    have HR2 := Lib.hid (hr2.mono hsz1)
    have HG2 := Lib.hid hg2
    have HC2 := Lib.hid hc2
    have HK2 := Lib.hid (HK1.out.trans hk2)
    have hsz2 : w.heap.size ≤ w2.heap.size := HK2.out.1.size
    clear hr2 hc2 hk2 hg2 HC1 HK1
    go_wp2_with fail
    refine (HPV.out v2 l2 _ HR2.out.sl HG2.out).mono ?_
    rintro e w3 ⟨v3, rfl, hr3, hb3⟩
    rw [Int.toNat_natCast] at hr3
    obtain ⟨l3, hl3, hr3⟩ : ∃ l3 : List Int, l3.length = m ∧ Row w3 w2.heap.size v3 l3 := ⟨_, fl_len _ _, hr3⟩
    obtain ⟨g, cap, rfl, hgB, hgl⟩ := hr3.form (by omega)
    have HR3 := Lib.hid (hr3.mono hsz2); clear hr3
    have HC3 := Lib.hid (HC2.out.kp hb3)
    have HK3 := Lib.hid (HK2.out.trans (Kp.below hb3 (Nat.le_of_lt HC2.out.lt)))
    clear hb3 HR2 HG2 HPV HSP
    rw [hl3]
    go_wp2_with fail
    refine (HP.out _ 16 _ HC3.out (by omega)).mono ?_
    rintro e w4 ⟨x, rfl, _, _, hc4, hk4⟩
    have HR4 := Lib.hid (HR3.out.kp hk4 HCL.out)
    have HC4 := Lib.hid hc4
    have HK4 := Lib.hid (HK3.out.trans hk4)
    have hgl4 : g < w4.heap.size := by have := hk4.1.size; omega
    have hsz4 : w.heap.size ≤ w4.heap.size := HK4.out.1.size
    clear hc4 hk4 HR3 HC3 HK3
    by_cases hx0 : x = 0
    · subst hx0
      go_wp2_with fail
      refine (HP.out _ (m : Int) _ HC4.out (by omega)).mono ?_
      rintro e w5 ⟨z, rfl, _, hz, hc5, hk5⟩
      obtain ⟨z0, z1⟩ := hz (by omega)
      obtain ⟨z, rfl⟩ := Int.eq_ofNat_of_zero_le z0
      have hzm : z < m := by omega
      have HR5 := Lib.hid (HR4.out.kp hk5 HCL.out)
      have HC5 := Lib.hid hc5
      have HK5 := Lib.hid (HK4.out.trans hk5)
      have hgl5 : g < w5.heap.size := by have := hk5.1.size; omega
      clear hc5 hk5 hz
      go_wp2_with fail
      refine (HA.out _ [-1, (m : Int), 0, 4611686018427387904] _ HC5.out (by omega) rfl _ rfl).mono ?_
      rintro e w6 ⟨y, rfl, hc6, hk6⟩
      have HR6 := Lib.hid (HR5.out.kp hk6 HCL.out)
      have HC6 := Lib.hid hc6
      have HK6 := Lib.hid (HK5.out.trans hk6)
      have hgl6 : g < w6.heap.size := by have := hk6.1.size; omega
      have hsz6 : w.heap.size ≤ w6.heap.size := HK6.out.1.size
      have c6 := HR6.out.cell z (by omega)
      have f6 := HR6.out.frozen rfl z
      clear hc6 hk6
      go_wp2
      go_ret
      have hb7 : Below w.heap.size w6 (w6.setCell ⟨g, z, none⟩ (.int .i64 y)) := Below.setCell (Below.refl _ _) (by simp; omega) _
      have hr7 := HR6.out.store rfl z y
      rw [hl3] at hr7
      exact ⟨_, l3.set z y, rfl, by rw [List.length_set]; omega, hr7, (Cu.own HCU.out HC6.out hb7).mono (by omega), HK6.out.own (Nat.le_of_lt HCL.out) rfl hb7⟩
    · by_cases hx1 : x = 1
      · subst hx1
        have hlm : l3.length + 1 ≤ maxLen := by unfold maxLen; omega
        have HR4' : Hid (Row w4 w.heap.size (.slice (some ⟨g, 0, none⟩) m cap) l3) := Lib.hid (by have := HR4.out; rwa [hl3] at this)
        have hsz4' : w.heap.size ≤ w4.heap.size := hsz4
        go_wp2_with (at_builtin; refine wpList_append_own _ rfl _ _ 24 rfl w.heap.size 3 i0 (.int .i64 0) 1 8 Tryz.underlying24 hi hz0 hz1 hz2 rfl (by decide) _ _ _ rfl (World.ownsRow.alloc HR4'.out _) ⟨w4.heap.size, 0, none⟩ 1 1 [.int .i64 0] rfl rfl ?c1 ?c2 ?c3 ?c4 ?c5 ?_)
        case c1 => exact cell_one_new _ _ _
        case c2 => intro u hu; simp at hu; subst hu; rfl
        case c3 => exact hlm
        case c4 => omega
        case c5 => simp; omega
        intro v' w5 hown hgrow _
        have HR5 := Lib.hid (Row.appended (l := l3) (by rw [hl3]; exact hown))
        have HB5 : Hid (Below w.heap.size w4 w5) := Lib.hid (((Below.refl _ _).alloc hsz4 (.cells #[.int .i64 0] 3)).grown hgrow (by simp; omega) (fun g hg => (HR4'.out.lt g hg).1))
        have HC5 := Lib.hid (Cu.own HCU.out HC4.out HB5.out)
        have HK5 := Lib.hid (HK4.out.own (Nat.le_of_lt HCL.out) rfl HB5.out)
        clear hown hgrow
        go_wp2
        go_ret
        exact ⟨_, l3 ++ [0], rfl, by rw [List.length_append]; simp; omega, HR5.out, HC5.out.mono (by omega), HK5.out⟩
      · go_wp2
        go_ret
        exact ⟨_, l3, rfl, by omega, by have := HR4.out; rwa [hl3] at this, HC4.out.mono (by omega), HK4.out⟩
end Go.Proofs.YtljijnanmpajaaaGreat
