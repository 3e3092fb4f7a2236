/- The draws of polynomials of the general laws (l1Cur: surePoly, poly), by contracts: some numbers, new. -/
import Derived.Test.YtljijnanmpajaaaGreatUB
import Derived.Test.YtljijnanmpajaaaGreatTN
namespace Go.Proofs.YtljijnanmpajaaaGreat
open Go.RowKit
theorem Row.kp {w w' : World} {B cb : Nat} {v : Value} {l : List Int} (h : Row w B v l) (hk : Kp cb w w') (hc : cb < B) : Row w' B v l :=
  h.keep fun g hg => hk.2 g (h.lt g hg).2 (by have := (h.lt g hg).1; omega)
theorem Cu.own {w0 w1 w2 : World} {cb : Nat} {a : Option Addr} {n c k0 k : Nat} (h0 : Cu w0 cb a n c k0) (h1 : Cu w1 cb a n c k) (hb : Below w0.heap.size w1 w2) : Cu w2 cb a n c k := by
  have hl := h0.lt
  obtain ⟨_, _, hs0⟩ := h0
  obtain ⟨hn, ⟨pos, seed, hc, p0, p1⟩, hs1⟩ := h1
  refine ⟨hn, ⟨pos, seed, (hb.block _ hl).trans hc, p0, p1⟩, fun i hi => ?_⟩
  obtain ⟨b, off, x, e, hbl, hne, hx, x0, x1⟩ := hs1 i hi
  obtain ⟨b', off', x', e', hbl', hne', _⟩ := hs0 i hi
  rw [e] at e'
  obtain ⟨rfl, rfl⟩ : b = b' ∧ off = off' := by simpa using e'
  have := hb.size
  exact ⟨b, off, x, e, by omega, hne, (hb.cell (p := ⟨b, off + i, none⟩) hbl').trans hx, x0, x1⟩
theorem Kp.own {cb B : Nat} {w w1 w2 : World} (h : Kp cb w w1) (hc : cb ≤ B) (hB : B = w.heap.size) (hb : Below B w1 w2) : Kp cb w w2 := by
  subst hB
  exact ⟨h.1.trans (hb.mono hc), fun g hg hne => (hb.block g hg).trans (h.2 g hg hne)⟩
theorem among_newB (cb : Nat) (a : Option Addr) (n c k len : Nat) (l : List Int) (w : World) (h : Cu w cb a n c k) (hk : k ≤ 900) (hl : l.length = len) (h0 : 1 ≤ len) (h1 : len ≤ 1000) (o : Obj) (ho : o = Obj.cells ((l.map (Value.int .i64)).toArray) 3 (0, 0)) (hb : ∀ x ∈ l, x ≤ 16) :
    Calls Tryz.prog 103 #[.pointer (some ⟨cb, 0, none⟩), .slice (some ⟨w.heap.size, 0, none⟩) len len] (w.alloc o) fun e w' => ∃ r : Int, e = .returned (.int .i64 r) ∧ r ≤ 16 ∧ Cu w' cb a n c (k + 2) ∧ Kp cb w w' := by
  refine (among_any cb w.heap.size a n c k len len l 3 (w.alloc o) (h.kp (Below.alloc (Below.refl _ _) (Nat.le_refl _) _)) (by omega) (by rw [heap_alloc_new, ho]) (by have := h.lt; omega) hl h0 h1).mono ?_
  rintro e w' ⟨i, hi, rfl, hc, hk⟩
  refine ⟨_, rfl, hb _ ?_, hc, (h.allocs o).trans hk⟩
  rw [show l.getD i 0 = l[i] by simp [List.getD, hi, hl]]
  exact List.getElem_mem _
set_option maxRecDepth 100000 in
set_option maxHeartbeats 8000000 in
/-- spec.l1Cur.surePoly. -/
theorem surePoly_any (cb : Nat) (a : Option Addr) (n c k m : Nat) (w : World) (h : Cu w cb a n c k) (hk : k ≤ 600) (hs : isSz (m : Int) = true) :
    Calls Tryz.prog 162 #[.pointer (some ⟨cb, 0, none⟩), .int .i64 m] w fun e w' => ∃ v l, e = .returned v ∧ l.length ≤ 16 ∧ Row w' w.heap.size v l ∧ Cu w' cb a n c (k + 40) ∧ Kp cb w w' := by
  have hq := isSz_le (m : Int) hs
  obtain ⟨i0, hi, hz0, hz1, hz2⟩ := info_parts Tryz.infoI
  have HCL := Lib.hid h.lt
  have HCU := Lib.hid h
  have HA := Lib.hid (fun (l : List Int) (hl : l.length = 7) hb o ho => among_newB cb a n c k 7 l w h (by omega) hl (by omega) (by omega) o ho hb)
  have HP := Lib.hid (fun k w' (hc : Cu w' cb a n c k) (hk : k ≤ 800) => pick_any cb a n c k m w' hc (by omega))
  have HSH := Lib.hid (fun v' (l : List Int) B w' (hr : Row w' B v' l) (hl : l.length ≤ 16) => plShort_row v' l.length B (fun i => l.getD i 0) w' ((fl_of l) ▸ hr) (by omega))
  have hq3 : (m : Int) / 2 ≤ 16 := by omega
  clear hs h
  go_enter Tryz.func162, Tryz.ntmps162
  go_wp2_with fail
  refine (HA.out [0, 1, 2, 3, 4, (m : Int) / 2, (m : Int)] rfl (by intro x hx; simp at hx; omega) _ rfl).mono ?_
  rintro e w1 ⟨r, rfl, hr16, hc1, hk1⟩
  have HC1 := Lib.hid hc1; clear hc1
  have HK1 := Lib.hid hk1; clear hk1
  go_wp2_with fail
  go_loopw [5, 6] (fun vf vk wr => ∃ l : List Int, l.length ≤ m ∧ Row wr w.heap.size vf l ∧ vk = .int .i64 (r - (l.length : Int)) ∧ Cu wr cb a n c (k + 2 + 2 * l.length) ∧ Kp cb w wr) (fun _ vk _ => (intOf vk).toNat)
  case atStart => exact ⟨[], Nat.zero_le _, Row.nil _ _, by simp, HC1.out, HK1.out⟩
  case round =>
    obtain ⟨l, hl, hrow, rfl, hcu, hkp⟩ := hrel
    obtain ⟨af, cf, rfl⟩ := hrow.sl.form
    have HR := Lib.hid hrow; clear hrow
    have HCu := Lib.hid hcu; clear hcu
    have HKp := Lib.hid hkp; clear hkp
    have hszr : w.heap.size ≤ wr.heap.size := HKp.out.1.size
    by_cases h1 : 0 < r - (l.length : Int)
    · have hwr : IntKind.i64.wrap (r - (l.length : Int) - 1) = r - (l.length : Int) - 1 := IntWalk.i64_in _ (by omega)
      by_cases h2 : l.length < m
      · go_wp2_with fail
        refine (HP.out _ _ HCu.out (by omega)).mono ?_
        rintro e w2 ⟨x, rfl, _, _, hc2, hk2⟩
        have HR2 := Lib.hid (HR.out.kp hk2 HCL.out)
        have HK2 := Lib.hid (HKp.out.trans hk2)
        have HC2 := Lib.hid hc2
        clear hc2 hk2
        have hsz2 : w.heap.size ≤ w2.heap.size := HK2.out.1.size
        have hlm : l.length + 1 ≤ maxLen := by unfold maxLen; omega
        go_wp2_with (at_builtin; refine wpList_append_own _ rfl _ _ 24 rfl w.heap.size 3 i0 (.int .i64 0) 1 8 Tryz.underlying24 hi hz0 hz1 hz2 rfl (by decide) _ _ _ rfl (World.ownsRow.alloc HR2.out _) ⟨w2.heap.size, 0, none⟩ 1 1 [.int .i64 x] rfl rfl ?c1 ?c2 ?c3 ?c4 ?c5 ?_)
        case c1 => exact cell_one_new _ _ _
        case c2 => intro u hu; simp at hu; subst hu; rfl
        case c3 => exact hlm
        case c4 => omega
        case c5 => simp; omega
        intro v' w3 hown hgrow _
        have HR3 := Lib.hid (Row.appended hown)
        have HB3 : Hid (Below w.heap.size w2 w3) := Lib.hid (((Below.refl _ _).alloc hsz2 (.cells #[.int .i64 x] 3)).grown hgrow (by simp; omega) (fun g hg => (HR2.out.lt g hg).1))
        have HC3 := Lib.hid (Cu.own HCU.out HC2.out HB3.out)
        have HK3 := Lib.hid (HK2.out.own (Nat.le_of_lt HCL.out) rfl HB3.out)
        clear hown hgrow
        go_wp2
        go_roundw
        case rel => exact ⟨l ++ [x], by rw [List.length_append]; exact h2, HR3.out, by rw [List.length_append]; simp; omega, by rw [List.length_append]; exact HC3.out, HK3.out⟩
        case measure => simp [intOf]; omega
      · go_wp2_with fail
        refine (HSH.out _ l w.heap.size _ HR.out (by omega)).mono ?_
        rintro e w4 ⟨v4, rfl, hr4, hb4⟩
        have HR4 := Lib.hid hr4; clear hr4
        have HB4 := Lib.hid hb4; clear hb4
        go_wp2
        go_ret
        exact ⟨_, _, rfl, by have := sn_le (fun i => l.getD i 0) l.length; rw [fl_len]; omega, HR4.out.mono hszr, (HCu.out.kp HB4.out).mono (by omega), HKp.out.trans (Kp.below HB4.out (by have := HCL.out; omega))⟩
    · go_wp2_with fail
      refine (HSH.out _ l w.heap.size _ HR.out (by omega)).mono ?_
      rintro e w4 ⟨v4, rfl, hr4, hb4⟩
      have HR4 := Lib.hid hr4; clear hr4
      have HB4 := Lib.hid hb4; clear hb4
      go_wp2
      go_ret
      exact ⟨_, _, rfl, by have := sn_le (fun i => l.getD i 0) l.length; rw [fl_len]; omega, HR4.out.mono hszr, (HCu.out.kp HB4.out).mono (by omega), HKp.out.trans (Kp.below HB4.out (by have := HCL.out; omega))⟩
set_option maxRecDepth 100000 in
set_option maxHeartbeats 8000000 in
/-- spec.l1Cur.poly. -/
theorem poly_any (cb : Nat) (a : Option Addr) (n c k : Nat) (q : Int) (w : World) (h : Cu w cb a n c k) (hk : k ≤ 500) :
    Calls Tryz.prog 82 #[.pointer (some ⟨cb, 0, none⟩), .int .i64 q] w fun e w' => ∃ v l, e = .returned v ∧ l.length ≤ 40 ∧ Row w' w.heap.size v l ∧ Cu w' cb a n c (k + 80) ∧ Kp cb w w' := by
  obtain ⟨i0, hi, hz0, hz1, hz2⟩ := info_parts Tryz.infoI
  have HCL := Lib.hid h.lt
  have HCU := Lib.hid h
  have HSZ := Lib.hid (fun w => fdSize_any q w)
  cases hs : isSz q with
  | false =>
    rw [hs] at HSZ
    clear hs h
    go_enter Tryz.func82, Tryz.ntmps82
    go_wp2_with fail
    refine (HSZ.out _).mono ?_
    rintro e w1 ⟨rfl, hb1⟩
    have HB1 := Lib.hid hb1; clear hb1
    have hsz1 := HB1.out.size
    go_wp2
    go_ret
    have hb2 : Below w.heap.size w (w1.alloc (.cells #[.int .i64 0, .int .i64 1] 3)) := HB1.out.alloc hsz1 _
    refine ⟨_, [0, 1], rfl, by simp, Row.heap (by rw [heap_alloc_new]; rfl) hsz1 rfl (by unfold maxLen; omega), (HCU.out.kp hb2).mono (by omega), Kp.below hb2 (Nat.le_of_lt HCL.out)⟩
  | true =>
    rw [hs] at HSZ
    have hq := isSz_le q hs
    obtain ⟨m, rfl⟩ := Int.eq_ofNat_of_zero_le (show 0 ≤ q by omega)
    have HSP := Lib.hid (fun w' (hc : Cu w' cb a n c k) => surePoly_any cb a n c k m w' hc (by omega) hs)
    have HP := Lib.hid (fun k z w' (hc : Cu w' cb a n c k) (hk : k ≤ 800) => pick_any cb a n c k z w' hc (by omega))
    have HA := Lib.hid (fun k (l : List Int) w' (hc : Cu w' cb a n c k) (hk : k ≤ 800) (hl : l.length = 4) o ho => among_new cb a n c k 4 l w' hc (by omega) hl (by omega) (by omega) o ho)
    clear hs h
    go_enter Tryz.func82, Tryz.ntmps82
    go_wp2_with fail
    refine (HSZ.out _).mono ?_
    rintro e w1 ⟨rfl, hb1⟩
    have HC1 := Lib.hid (HCU.out.kp hb1)
    have HK1 := Lib.hid (Kp.below hb1 (Nat.le_of_lt HCL.out))
    have hsz1 := hb1.size
    clear hb1
    go_wp2_with fail
    refine (HSP.out _ HC1.out).mono ?_
    rintro e w2 ⟨v2, l, rfl, hl, hr2, hc2, hk2⟩
    have HR2 := Lib.hid (hr2.mono hsz1)
    have HC2 := Lib.hid hc2
    have HK2 := Lib.hid (HK1.out.trans hk2)
    clear hr2 hc2 hk2 HC1 HK1
    go_wp2_with fail
    refine (HP.out _ _ _ HC2.out (by omega)).mono ?_
    rintro e w3 ⟨x, rfl, _, _, hc3, hk3⟩
    have HR3 := Lib.hid (HR2.out.kp hk3 HCL.out)
    have HC3 := Lib.hid hc3
    have HK3 := Lib.hid (HK2.out.trans hk3)
    have hsz3 : w.heap.size ≤ w3.heap.size := HK3.out.1.size
    clear hc3 hk3 HR2 HC2 HK2
    obtain ⟨af, cf, rfl⟩ := HR3.out.sl.form
    have hlm : l.length + 1 ≤ maxLen := by unfold maxLen; omega
    by_cases hx0 : x = 0
    · subst hx0
      go_wp2_with fail
      refine (HA.out _ [-1, 0, (m : Int), 4611686018427387904] _ HC3.out (by omega) rfl _ rfl).mono ?_
      rintro e w4 ⟨y, rfl, hc4, hk4⟩
      have HR4 := Lib.hid (HR3.out.kp hk4 HCL.out)
      have HC4 := Lib.hid hc4
      have HK4 := Lib.hid (HK3.out.trans hk4)
      have hsz4 : w.heap.size ≤ w4.heap.size := HK4.out.1.size
      clear hc4 hk4
      go_wp2_with (at_builtin; refine wpList_append_own _ rfl _ _ 24 rfl w.heap.size 3 i0 (.int .i64 0) 1 8 Tryz.underlying24 hi hz0 hz1 hz2 rfl (by decide) _ _ _ rfl (World.ownsRow.alloc HR4.out _) ⟨w4.heap.size, 0, none⟩ 1 1 [.int .i64 y] rfl rfl ?c1 ?c2 ?c3 ?c4 ?c5 ?_)
      case c1 => exact cell_one_new _ _ _
      case c2 => intro u hu; simp at hu; subst hu; rfl
      case c3 => exact hlm
      case c4 => omega
      case c5 => simp; omega
      intro v' w5 hown hgrow _
      have HR5 := Lib.hid (Row.appended hown)
      have HB5 : Hid (Below w.heap.size w4 w5) := Lib.hid (((Below.refl _ _).alloc hsz4 (.cells #[.int .i64 y] 3)).grown hgrow (by simp; omega) (fun g hg => (HR4.out.lt g hg).1))
      have HC5 := Lib.hid (Cu.own HCU.out HC4.out HB5.out)
      have HK5 := Lib.hid (HK4.out.own (Nat.le_of_lt HCL.out) rfl HB5.out)
      clear hown hgrow
      go_wp2
      go_ret
      exact ⟨_, l ++ [y], rfl, by rw [List.length_append]; simp; omega, HR5.out, HC5.out.mono (by omega), HK5.out⟩
    · by_cases hx1 : x = 1
      · subst hx1
        obtain ⟨L0, hL0⟩ : ∃ L0, L0 = l.length := ⟨_, rfl⟩
        go_wp2_with fail
        go_loopw [5] (fun vf wr => ∃ (j : Nat) (r : List Int), j ≤ 17 ∧ r.length ≤ m + 1 + 16 ∧ (j = 0 ∨ r.length ≤ m + 1) ∧ r.length = L0 + j ∧ Row wr w.heap.size vf r ∧ Cu wr cb a n c (k + 42 + 2 * j) ∧ Kp cb w wr) (fun vf _ => 40 - (match vf with | .slice _ n _ => n | _ => 0))
        case atStart => exact ⟨0, l, by omega, by omega, .inl rfl, hL0.symm, HR3.out, HC3.out.mono (by omega), HK3.out⟩
        case round =>
          obtain ⟨j, r, hj, hrl, hj0, hrj, hrow, hcu, hkp⟩ := hrel
          have HJ := Lib.hid hrj; clear hrj
          have HL0 := Lib.hid hL0; clear hL0
          obtain ⟨ag, cg, rfl⟩ := hrow.sl.form
          have HR := Lib.hid hrow; clear hrow
          have HCu := Lib.hid hcu; clear hcu
          have HKp := Lib.hid hkp; clear hkp
          go_wp2_with fail
          refine (HP.out _ _ _ HCu.out (by omega)).mono ?_
          rintro e w6 ⟨z, rfl, _, hz, hc6, hk6⟩
          obtain ⟨z0, z1⟩ := hz (by omega)
          have HR6 := Lib.hid (HR.out.kp hk6 HCL.out)
          have HC6 := Lib.hid hc6
          have HK6 := Lib.hid (HKp.out.trans hk6)
          have hsz6 : w.heap.size ≤ w6.heap.size := HK6.out.1.size
          clear hc6 hk6
          have hwz : IntKind.i64.wrap ((m : Int) + z) = (m : Int) + z := IntWalk.i64_in _ (by omega)
          have hlm : r.length + 1 ≤ maxLen := by unfold maxLen; omega
          by_cases hlt : (r.length : Int) < (m : Int) + z
          · go_wp2_with (at_builtin; refine wpList_append_own _ rfl _ _ 24 rfl w.heap.size 3 i0 (.int .i64 0) 1 8 Tryz.underlying24 hi hz0 hz1 hz2 rfl (by decide) _ _ _ rfl (World.ownsRow.alloc HR6.out _) ⟨w6.heap.size, 0, none⟩ 1 1 [.int .i64 1] rfl rfl ?c1 ?c2 ?c3 ?c4 ?c5 ?_)
            case c1 => exact cell_one_new _ _ _
            case c2 => intro u hu; simp at hu; subst hu; rfl
            case c3 => exact hlm
            case c4 => omega
            case c5 => simp; omega
            intro v' w7 hown hgrow _
            have HR7 := Lib.hid (Row.appended hown)
            have HB7 : Hid (Below w.heap.size w6 w7) := Lib.hid (((Below.refl _ _).alloc hsz6 (.cells #[.int .i64 1] 3)).grown hgrow (by simp; omega) (fun g hg => (HR6.out.lt g hg).1))
            have HC7 := Lib.hid (Cu.own HCU.out HC6.out HB7.out)
            have HK7 := Lib.hid (HK6.out.own (Nat.le_of_lt HCL.out) rfl HB7.out)
            clear hown hgrow
            go_wp2
            go_roundw
            case rel => exact ⟨j + 1, r ++ [1], by have := HJ.out; omega, by rw [List.length_append]; simp; omega, .inr (by rw [List.length_append]; simp; omega), by have := HJ.out; rw [List.length_append]; simp; omega, HR7.out, HC7.out.mono (by omega), HK7.out⟩
            case measure =>
              obtain ⟨b7, d7, rfl⟩ := HR7.out.sl.form
              rw [List.length_append]
              simp
              omega
          · go_wp2
            go_ret
            exact ⟨_, r, rfl, by omega, HR6.out, HC6.out.mono (by omega), HK6.out⟩
      · go_wp2
        go_ret
        exact ⟨_, l, rfl, by omega, HR3.out, HC3.out.mono (by omega), HK3.out⟩
end Go.Proofs.YtljijnanmpajaaaGreat
