/- Numbers of elements with a property: impl.field.numbersWhere at the functions that it is given, by contracts. -/
import Derived.Test.YtapglncgicfjnaaKI
import Derived.Test.YtapglncgicfjnaaKH
import Derived.Test.YtapglncgicfjnaaKG
namespace Go.Proofs.Ytapglncgicfjnaa
open Go.RowKit
/-- '==' on two elements, at their digits. -/
theorem eq_dg' (q x y : Int) (h : isSz q = true) (x0 : 0 ≤ x) (x1 : x < q) (y0 : 0 ≤ y) (y1 : y < q) (w : World) :
    (Op.equalIn 9999 85 (.agg #[.int .i64 (dg q x 0), .int .i64 (dg q x 1), .int .i64 (dg q x 2), .int .i64 (dg q x 3)]) (.agg #[.int .i64 (dg q y 0), .int .i64 (dg q y 1), .int .i64 (dg q y 2), .int .i64 (dg q y 3)])).run Try.prog w = .ok (decide (x = y)) w := by
  rw [← dg_inj q x y h x0 x1 y0 y1]
  exact eq_arr 85 Try.underlying85 _ _ _ _ _ _ _ _ 9997 w

set_option maxHeartbeats 1000000 in
/-- impl.element.isPrimitive, also at 0. -/
theorem isPrimitive0 (q : Int) (w : World) (h : isSz q = true) :
    Calls Try.prog 93 #[elE q 0] w fun e w' => e = .returned (.bool false) ∧ Below w.heap.size w w' := by
  have hq := isSz_le q h
  have HZ := Lib.hid (fun w => isZeroE q 0 w h (Int.le_refl _) (by omega))
  simp only [decide_true] at HZ
  clear h
  go_enter Try.func93, Try.ntmps93
  go_wp2
  first | go_region_with (go_at_call 73; refine (HZ.out _).mono ?_; rintro e w2 ⟨rfl, hb2⟩; obtain ⟨hc2, hf2⟩ := bcell hb2; (try simp only [World.size_drew] at hc2 hf2); have hz2 := hb2.size; (try simp at hz2); have HB2 := Lib.hid hb2; clear hb2; have l2 : w.heap.size < w2.heap.size := (by omega)) | fail
  all_goals
    go_wp2
    go_ret
    refine ⟨by simp [Act.put], ?_⟩
    have hb2 := HB2.out
    (repeat' (first | (with_reducible assumption) | (with_reducible exact Below.refl _ _) | (with_reducible refine below_drewN ?_ _) | (with_reducible refine Below.drew ?_) | (with_reducible refine Below.alloc ?_ ?_ _) | (with_reducible refine Below.setCell ?_ ?_ _) | (with_reducible refine Below.trans ?_ (Below.mono (by assumption) ?_)) | (with_reducible exact Nat.le_refl _) | (with_reducible assumption) | omega | (simp; omega) | (simp; done)))
/-- The property 'primitive'. -/
def isPr (q : Int) (a : Nat) : Bool := a != 0 && ((ordN q (a : Int) : Int) == q - 1)
theorem isPr_model (q : Int) (n : Nat) : wh (isPr q) n = primTo q n := rfl
theorem isPrimitiveA (q : Int) (n : Nat) (w : World) (h : isSz q = true) (hn : (n : Int) < q) :
    Calls Try.prog 93 #[elE q (n : Int)] w fun e w' => e = .returned (.bool (isPr q n)) ∧ Below w.heap.size w w' := by
  by_cases h0 : n = 0
  · subst h0
    exact isPrimitive0 q w h
  · have e : isPr q n = ((ordN q (n : Int) : Int) == q - 1) := by simp [isPr, h0]
    rw [e]
    exact isPrimitiveE q (n : Int) w h (by omega) hn

/-- The property 'square'. -/
def isSqN (q : Int) (a : Nat) : Bool := isSq q (a : Int)

theorem TS.keep' {w0 wr w' : World} {q x : Int} {f : Nat → Int} {m S g B : Nat} (h : TS w0 wr q x f m S g) (hb : Below B wr w') (hg : g < B) : TS w0 w' q x f m S g := by
  have h0 := h.s0
  have h1 := h.lt
  exact ⟨(hb.block _ (by omega)).trans h.hs, h.hk.below hb hg, h.he.below hb hg, h.bel.trans (hb.mono (by omega)), h0, h1⟩

set_option maxHeartbeats 2000000 in
/-- impl.element.isSquare. -/
theorem isSquareA (q : Int) (a : Nat) (w : World) (h : isSz q = true) (ha : (a : Int) < q) :
    Calls Try.prog 96 #[elE q (a : Int)] w fun e w' => e = .returned (.bool (isSqN q a)) ∧ Below w.heap.size w w' := by
  have hq := isSz_le q h
  have HE := Lib.hid (fun w => elements_any q w h)
  have HT := Lib.hid (fun (n : Nat) w (hn : (n : Int) < q) => timesE q (n : Int) (n : Int) w h (by omega) hn (by omega) hn)
  have HEQ := Lib.hid (fun (n : Nat) w (hn : (n : Int) < q) => eq_dg' q (mulF q (n : Int) (n : Int)) (a : Int) h (mulF_bd q _ _ h (by omega) hn (by omega) hn).1 (mulF_bd q _ _ h (by omega) hn (by omega) hn).2 (by omega) ha w)
  have HSQ : Hid (isSqN q a = (List.range q.toNat).any fun n => mulF q (n : Int) (n : Int) == (a : Int)) := Lib.hid rfl
  generalize isSqN q a = ans at *
  generalize (a : Int) = y at *
  obtain ⟨m, hm⟩ := Int.eq_ofNat_of_zero_le (show 0 ≤ q by omega)
  subst hm
  rw [Int.toNat_natCast] at HE HSQ
  clear h ha
  go_enter Try.func96, Try.ntmps96
  go_wp2_with fail
  refine (HE.out _).mono ?_
  rintro e w3 ⟨g, cp, rfl, hg, hkb, hel, hb3⟩
  simp at hg
  have hts : TS w w3 (m : Int) y (fun j => (j : Int)) m w.heap.size g := by
    refine ⟨?_, hkb, hel, ?_, Nat.le_refl _, by omega⟩
    · rw [hb3.block _ (by simp), heap_alloc_new]
    · (repeat' (first | (with_reducible assumption) | (with_reducible exact Below.refl _ _) | (with_reducible refine below_drewN ?_ _) | (with_reducible refine Below.drew ?_) | (with_reducible refine Below.alloc ?_ ?_ _) | (with_reducible refine Below.setCell ?_ ?_ _) | (with_reducible refine Below.trans ?_ (Below.mono (by assumption) ?_)) | (with_reducible exact Nat.le_refl _) | (with_reducible assumption) | omega | (simp; omega) | (simp; done)))
  have HTS := Lib.hid hts
  clear hts hkb hel hb3
  go_wp2_with fail
  go_loopw [9] (fun vi wr => ∃ i : Nat, i ≤ m ∧ vi = .int .i64 i ∧ TS w wr (m : Int) y (fun j => (j : Int)) m w.heap.size g ∧ (∀ j, j < i → mulF (m : Int) (j : Int) (j : Int) ≠ y)) (fun vi _ => m - (intOf vi).toNat)
  case atStart => exact ⟨0, Nat.zero_le _, rfl, HTS.out, fun j hj => by omega⟩
  case round =>
    obtain ⟨i, hi, rfl, ht, hnot⟩ := hrel
    have HNOT := Lib.hid hnot; clear hnot
    obtain ⟨p0, p1, p2, p3, p4, p5, p6, pf, pl'⟩ := seven ht.hs
    have hgr := ht.hk.lt
    by_cases hlt : i < m
    · obtain ⟨c0, c1, c2, c3, c4, c5, c6⟩ := ht.he i hlt
      have hnq : (i : Int) < (m : Int) := by omega
      have HTT := Lib.hid ht; clear ht
      have HT' := Lib.hid (fun w => HT.out i w hnq)
      have HEQ' := Lib.hid (fun w => HEQ.out i w hnq)
      have HX : ∀ x, mulF (m : Int) (i : Int) (i : Int) = x → Hid (mulF (m : Int) (i : Int) (i : Int) = x) := fun x h => Lib.hid h
      generalize hx : mulF (m : Int) (i : Int) (i : Int) = x at HT' HEQ'
      have HXX := HX x hx
      clear hx HX
      by_cases hd : x = y
      · have hd' : decide (x = y) = true := by simpa using hd
        have HD := Lib.hid hd; clear hd
        go_wp2_with fail
        go_region_with (first | (go_at_call 88; refine (HT'.out _).mono ?_; rintro e w5 ⟨rfl, hb5⟩; obtain ⟨hc5, hf5⟩ := bcell hb5; (try simp only [World.size_drew] at hc5 hf5); have hz5 := hb5.size; (try simp at hz5); have HB5 := Lib.hid hb5; clear hb5; have l5 : w.heap.size < w5.heap.size := (by omega)) | (simp only [HEQ'.out, Result.andThen_ok, hd']))
        all_goals
          go_wp2
          go_ret
          refine ⟨ret_bool ?_, ?_⟩
          · rw [HSQ.out]
            symm
            rw [List.any_eq_true]
            exact ⟨i, List.mem_range.2 hlt, by rw [HXX.out, HD.out]; simp⟩
          · have hb := HTT.out.bel
            have hbz := hb.size
            have hb5 := HB5.out
            (repeat' (first | (with_reducible assumption) | (with_reducible exact Below.refl _ _) | (with_reducible refine below_drewN ?_ _) | (with_reducible refine Below.drew ?_) | (with_reducible refine Below.alloc ?_ ?_ _) | (with_reducible refine Below.setCell ?_ ?_ _) | (with_reducible refine Below.trans ?_ (Below.mono (by assumption) ?_)) | (with_reducible exact Nat.le_refl _) | (with_reducible assumption) | omega | (simp; omega) | (simp; done)))
      · have hd' : decide (x = y) = false := by simpa using hd
        have HD := Lib.hid hd; clear hd
        go_wp2_with fail
        go_region_with (first | (go_at_call 88; refine (HT'.out _).mono ?_; rintro e w5 ⟨rfl, hb5⟩; obtain ⟨hc5, hf5⟩ := bcell hb5; (try simp only [World.size_drew] at hc5 hf5); have hz5 := hb5.size; (try simp at hz5); have HB5 := Lib.hid hb5; clear hb5; have l5 : w.heap.size < w5.heap.size := (by omega)) | (simp only [HEQ'.out, Result.andThen_ok, hd']))
        all_goals
          go_wp2
          go_roundw
          case rel =>
            have hb5 := HB5.out
            refine ⟨i + 1, by omega, by go_num, ?_, ?_⟩
            · refine HTT.out.keep' (B := wr.heap.size) ?_ hgr
              (repeat' (first | (with_reducible assumption) | (with_reducible exact Below.refl _ _) | (with_reducible refine below_drewN ?_ _) | (with_reducible refine Below.drew ?_) | (with_reducible refine Below.alloc ?_ ?_ _) | (with_reducible refine Below.setCell ?_ ?_ _) | (with_reducible refine Below.trans ?_ (Below.mono (by assumption) ?_)) | (with_reducible exact Nat.le_refl _) | (with_reducible assumption) | omega | (simp; omega) | (simp; done)))
            · intro j hj
              by_cases e : j = i
              · subst e; rw [HXX.out]; exact HD.out
              · exact HNOT.out j (by omega)
          case measure => simp [intOf]; omega
    · obtain rfl : m = i := by omega
      have HTT := Lib.hid ht; clear ht
      go_wp2
      go_ret
      refine ⟨ret_bool ?_, HTT.out.bel⟩
      rw [HSQ.out]
      symm
      rw [List.any_eq_false]
      intro j hj
      simpa using HNOT.out j (List.mem_range.1 hj)

set_option maxHeartbeats 2000000 in
/-- impl.field.numbersWhere at impl.element.isPrimitive. -/
theorem numbersWhere_isPrimitive (q : Int) (w : World) (h : isSz q = true) :
    Calls Try.prog 92 #[fdE q, .func (.func 93) #[] #[]] w fun e w' => ∃ v, e = .returned v ∧ Row w' w.heap.size v (wh (isPr q) q.toNat) ∧ Below w.heap.size w w' := by
  obtain ⟨i0, hi, iz0, iz1, iz2⟩ := info_parts Try.infoI
  have hq := isSz_le q h
  have HE := Lib.hid (fun w => elements_any q w h)
  have HX := Lib.hid (fun (n : Nat) w (hn : (n : Int) < q) => isPrimitiveA q n  w h hn )
  have hzz : ∀ n, wh (isPr q) n = wh (isPr q) n := fun _ => rfl
  clear hzz
  obtain ⟨m, hm⟩ := Int.eq_ofNat_of_zero_le (show 0 ≤ q by omega)
  subst hm
  rw [Int.toNat_natCast] at HE ⊢
  generalize hP : (isPr (m : Int)) = P at *
  clear hP h
  go_enter Try.func92, Try.ntmps92
  go_wp2_with fail
  refine (HE.out _).mono ?_
  rintro e w3 ⟨g, cp, rfl, hg, hkb, hel, hb3⟩
  simp at hg
  have hgl := hkb.lt
  have hb : Below w.heap.size w w3 := by (repeat' (first | (with_reducible assumption) | (with_reducible exact Below.refl _ _) | (with_reducible refine below_drewN ?_ _) | (with_reducible refine Below.drew ?_) | (with_reducible refine Below.alloc ?_ ?_ _) | (with_reducible refine Below.setCell ?_ ?_ _) | (with_reducible refine Below.trans ?_ (Below.mono (by assumption) ?_)) | (with_reducible exact Nat.le_refl _) | (with_reducible assumption) | omega | (simp; omega) | (simp; done)))
  have HK3 := Lib.hid hkb
  have HL3 := Lib.hid hel
  have HB3 := Lib.hid hb
  have hz3 := hb.size
  clear hkb hel hb hb3
  go_wp2_with fail
  go_loopw [5, 11] (fun vo vi wr => ∃ i : Nat, i ≤ m ∧ vi = .int .i64 i ∧ Row wr w3.heap.size vo (wh P i) ∧ Below w3.heap.size w3 wr) (fun _ vi _ => m - (intOf vi).toNat)
  case atStart => exact ⟨0, Nat.zero_le _, rfl, Row.nil _ _, Below.refl _ _⟩
  case round =>
    obtain ⟨i, hi', rfl, hr, hbw⟩ := hrel
    have hz := hbw.size
    have HL := Lib.hid (wh_len P i)
    by_cases hlt : i < m
    · obtain ⟨c0, c1, c2, c3, c4, c5, c6⟩ := (HL3.out.below hbw hgl) i hlt
      have hgr : g < wr.heap.size := by omega
      have hnq : (i : Int) < (m : Int) := by omega
      have HR := Lib.hid hr; clear hr
      have HBW := Lib.hid hbw; clear hbw
      have HX' := Lib.hid (fun w => HX.out i w hnq)
      cases hp : P i with
      | true =>
        rw [hp] at HX'
        have HS := Lib.hid (wh_yes P i hp); clear hp
        go_wp2_with fail
        refine (HX'.out _).mono ?_
        rintro e w5 ⟨rfl, hb5⟩
        have hz_hb5 := hb5.size; (try simp at hz_hb5)
        have HR5 := Lib.hid ((HR.out.alloc (eblk (m : Int) (i : Int))).below hb5)
        have HB5 : Hid (Below wr.heap.size wr w5) := Lib.hid (by (repeat' (first | (with_reducible assumption) | (with_reducible exact Below.refl _ _) | (with_reducible refine below_drewN ?_ _) | (with_reducible refine Below.drew ?_) | (with_reducible refine Below.alloc ?_ ?_ _) | (with_reducible refine Below.setCell ?_ ?_ _) | (with_reducible refine Below.trans ?_ (Below.mono (by assumption) ?_)) | (with_reducible exact Nat.le_refl _) | (with_reducible assumption) | omega | (simp; omega) | (simp; done))))
        clear hb5
        go_wp2_with (at_builtin; refine wpList_append_own _ rfl _ _ 22 rfl w3.heap.size 3 i0 (.int .i64 0) 1 8 Try.underlying22 hi iz0 iz1 iz2 rfl (by decide) _ _ _ rfl (World.ownsRow.alloc HR5.out _) ⟨w5.heap.size, 0, none⟩ 1 1 [.int .i64 i] rfl rfl ?c1 ?c2 ?c3 ?c4 ?c5 ?_)
        case c1 => exact cell_one_new _ _ _
        case c2 => intro u hu; simp at hu; subst hu; rfl
        case c3 => have := HL.out; unfold maxLen; omega
        case c4 => have := HL.out; omega
        case c5 => simp; omega
        intro v' w6 hown hgrow _
        have HR6 := Lib.hid (Row.appended hown)
        have hb : Below w3.heap.size w3 (w5.alloc (.cells #[.int .i64 i] 3)) := (HBW.out.trans (HB5.out.mono hz)).alloc (by omega) _
        have HB6 := Lib.hid (hb.grown hgrow (by simp; omega) (fun g hg => (HR5.out.lt g hg).1))
        clear hown hgrow hb
        go_wp2
        go_roundw
        case rel => exact ⟨i + 1, by omega, by go_num, by rw [HS.out]; exact HR6.out, HB6.out⟩
        case measure => simp [intOf]; omega
      | false =>
        rw [hp] at HX'
        have HS := Lib.hid (wh_no P i hp); clear hp
        go_wp2_with fail
        refine (HX'.out _).mono ?_
        rintro e w5 ⟨rfl, hb5⟩
        have hz_hb5 := hb5.size; (try simp at hz_hb5)
        have HR5 := Lib.hid ((HR.out.alloc (eblk (m : Int) (i : Int))).below hb5)
        have HB5 : Hid (Below wr.heap.size wr w5) := Lib.hid (by (repeat' (first | (with_reducible assumption) | (with_reducible exact Below.refl _ _) | (with_reducible refine below_drewN ?_ _) | (with_reducible refine Below.drew ?_) | (with_reducible refine Below.alloc ?_ ?_ _) | (with_reducible refine Below.setCell ?_ ?_ _) | (with_reducible refine Below.trans ?_ (Below.mono (by assumption) ?_)) | (with_reducible exact Nat.le_refl _) | (with_reducible assumption) | omega | (simp; omega) | (simp; done))))
        clear hb5
        go_wp2
        go_roundw
        case rel => exact ⟨i + 1, by omega, by go_num, by rw [HS.out]; exact HR5.out, HBW.out.trans (HB5.out.mono hz)⟩
        case measure => simp [intOf]; omega
    · obtain rfl : m = i := by omega
      have HR := Lib.hid hr; clear hr
      have HBW := Lib.hid hbw; clear hbw
      go_wp2
      go_ret
      exact ⟨_, rfl, HR.out.mono hz3, HB3.out.trans (HBW.out.mono hz3)⟩

set_option maxHeartbeats 2000000 in
/-- impl.field.numbersWhere at impl.element.isSquare. -/
theorem numbersWhere_isSquare (q : Int) (w : World) (h : isSz q = true) :
    Calls Try.prog 92 #[fdE q, .func (.func 96) #[] #[]] w fun e w' => ∃ v, e = .returned v ∧ Row w' w.heap.size v (wh (isSqN q) q.toNat) ∧ Below w.heap.size w w' := by
  obtain ⟨i0, hi, iz0, iz1, iz2⟩ := info_parts Try.infoI
  have hq := isSz_le q h
  have HE := Lib.hid (fun w => elements_any q w h)
  have HX := Lib.hid (fun (n : Nat) w (hn : (n : Int) < q) => isSquareA q n  w h hn )
  have hzz : ∀ n, wh (isSqN q) n = wh (isSqN q) n := fun _ => rfl
  clear hzz
  obtain ⟨m, hm⟩ := Int.eq_ofNat_of_zero_le (show 0 ≤ q by omega)
  subst hm
  rw [Int.toNat_natCast] at HE ⊢
  generalize hP : (isSqN (m : Int)) = P at *
  clear hP h
  go_enter Try.func92, Try.ntmps92
  go_wp2_with fail
  refine (HE.out _).mono ?_
  rintro e w3 ⟨g, cp, rfl, hg, hkb, hel, hb3⟩
  simp at hg
  have hgl := hkb.lt
  have hb : Below w.heap.size w w3 := by (repeat' (first | (with_reducible assumption) | (with_reducible exact Below.refl _ _) | (with_reducible refine below_drewN ?_ _) | (with_reducible refine Below.drew ?_) | (with_reducible refine Below.alloc ?_ ?_ _) | (with_reducible refine Below.setCell ?_ ?_ _) | (with_reducible refine Below.trans ?_ (Below.mono (by assumption) ?_)) | (with_reducible exact Nat.le_refl _) | (with_reducible assumption) | omega | (simp; omega) | (simp; done)))
  have HK3 := Lib.hid hkb
  have HL3 := Lib.hid hel
  have HB3 := Lib.hid hb
  have hz3 := hb.size
  clear hkb hel hb hb3
  go_wp2_with fail
  go_loopw [5, 11] (fun vo vi wr => ∃ i : Nat, i ≤ m ∧ vi = .int .i64 i ∧ Row wr w3.heap.size vo (wh P i) ∧ Below w3.heap.size w3 wr) (fun _ vi _ => m - (intOf vi).toNat)
  case atStart => exact ⟨0, Nat.zero_le _, rfl, Row.nil _ _, Below.refl _ _⟩
  case round =>
    obtain ⟨i, hi', rfl, hr, hbw⟩ := hrel
    have hz := hbw.size
    have HL := Lib.hid (wh_len P i)
    by_cases hlt : i < m
    · obtain ⟨c0, c1, c2, c3, c4, c5, c6⟩ := (HL3.out.below hbw hgl) i hlt
      have hgr : g < wr.heap.size := by omega
      have hnq : (i : Int) < (m : Int) := by omega
      have HR := Lib.hid hr; clear hr
      have HBW := Lib.hid hbw; clear hbw
      have HX' := Lib.hid (fun w => HX.out i w hnq)
      cases hp : P i with
      | true =>
        rw [hp] at HX'
        have HS := Lib.hid (wh_yes P i hp); clear hp
        go_wp2_with fail
        refine (HX'.out _).mono ?_
        rintro e w5 ⟨rfl, hb5⟩
        have hz_hb5 := hb5.size; (try simp at hz_hb5)
        have HR5 := Lib.hid ((HR.out.alloc (eblk (m : Int) (i : Int))).below hb5)
        have HB5 : Hid (Below wr.heap.size wr w5) := Lib.hid (by (repeat' (first | (with_reducible assumption) | (with_reducible exact Below.refl _ _) | (with_reducible refine below_drewN ?_ _) | (with_reducible refine Below.drew ?_) | (with_reducible refine Below.alloc ?_ ?_ _) | (with_reducible refine Below.setCell ?_ ?_ _) | (with_reducible refine Below.trans ?_ (Below.mono (by assumption) ?_)) | (with_reducible exact Nat.le_refl _) | (with_reducible assumption) | omega | (simp; omega) | (simp; done))))
        clear hb5
        go_wp2_with (at_builtin; refine wpList_append_own _ rfl _ _ 22 rfl w3.heap.size 3 i0 (.int .i64 0) 1 8 Try.underlying22 hi iz0 iz1 iz2 rfl (by decide) _ _ _ rfl (World.ownsRow.alloc HR5.out _) ⟨w5.heap.size, 0, none⟩ 1 1 [.int .i64 i] rfl rfl ?c1 ?c2 ?c3 ?c4 ?c5 ?_)
        case c1 => exact cell_one_new _ _ _
        case c2 => intro u hu; simp at hu; subst hu; rfl
        case c3 => have := HL.out; unfold maxLen; omega
        case c4 => have := HL.out; omega
        case c5 => simp; omega
        intro v' w6 hown hgrow _
        have HR6 := Lib.hid (Row.appended hown)
        have hb : Below w3.heap.size w3 (w5.alloc (.cells #[.int .i64 i] 3)) := (HBW.out.trans (HB5.out.mono hz)).alloc (by omega) _
        have HB6 := Lib.hid (hb.grown hgrow (by simp; omega) (fun g hg => (HR5.out.lt g hg).1))
        clear hown hgrow hb
        go_wp2
        go_roundw
        case rel => exact ⟨i + 1, by omega, by go_num, by rw [HS.out]; exact HR6.out, HB6.out⟩
        case measure => simp [intOf]; omega
      | false =>
        rw [hp] at HX'
        have HS := Lib.hid (wh_no P i hp); clear hp
        go_wp2_with fail
        refine (HX'.out _).mono ?_
        rintro e w5 ⟨rfl, hb5⟩
        have hz_hb5 := hb5.size; (try simp at hz_hb5)
        have HR5 := Lib.hid ((HR.out.alloc (eblk (m : Int) (i : Int))).below hb5)
        have HB5 : Hid (Below wr.heap.size wr w5) := Lib.hid (by (repeat' (first | (with_reducible assumption) | (with_reducible exact Below.refl _ _) | (with_reducible refine below_drewN ?_ _) | (with_reducible refine Below.drew ?_) | (with_reducible refine Below.alloc ?_ ?_ _) | (with_reducible refine Below.setCell ?_ ?_ _) | (with_reducible refine Below.trans ?_ (Below.mono (by assumption) ?_)) | (with_reducible exact Nat.le_refl _) | (with_reducible assumption) | omega | (simp; omega) | (simp; done))))
        clear hb5
        go_wp2
        go_roundw
        case rel => exact ⟨i + 1, by omega, by go_num, by rw [HS.out]; exact HR5.out, HBW.out.trans (HB5.out.mono hz)⟩
        case measure => simp [intOf]; omega
    · obtain rfl : m = i := by omega
      have HR := Lib.hid hr; clear hr
      have HBW := Lib.hid hbw; clear hbw
      go_wp2
      go_ret
      exact ⟨_, rfl, HR.out.mono hz3, HB3.out.trans (HBW.out.mono hz3)⟩

/-- The property 'its power r is itself'. -/
def isFix (q r : Int) (a : Nat) : Bool := pw q (a : Int) r.toNat == (a : Int)
set_option maxHeartbeats 1000000 in
/-- The closure of impl.SubfieldOf. -/
theorem subA (q : Int) (n : Nat) (r : Int) (R : Nat) (w : World) (h : isSz q = true) (hn : (n : Int) < q) (r0 : 0 ≤ r) (r1 : r ≤ 1000) (hR : R < w.heap.size) (hc : w.cell? ⟨R, 0, none⟩ = some (.int .i64 r)) :
    Calls Try.prog 111 #[elE q (n : Int), .pointer (some ⟨R, 0, none⟩)] w fun e w' => e = .returned (.bool (isFix q r n)) ∧ Below w.heap.size w w' := by
  have HP := Lib.hid (fun w => powerE q (n : Int) r w h (by omega) hn r0 r1)
  have hb := pw_bd q (n : Int) h (by omega) hn r.toNat
  have HEQ := Lib.hid (fun w => eq_dg' q (pw q (n : Int) r.toNat) (n : Int) h hb.1 hb.2 (by omega) hn w)
  have HI : Hid (isFix q r n = decide (pw q (n : Int) r.toNat = (n : Int))) := Lib.hid (by simp [isFix, BEq.beq])
  have hR' : ¬ w.heap.size = R := by omega
  have hR2 : ¬ R = w.heap.size := by omega
  generalize pw q (n : Int) r.toNat = x at *
  generalize hd : decide (x = (n : Int)) = d at *
  clear h hb hd
  cases d
  all_goals
   go_enter Try.func111, Try.ntmps111
   go_wp2_with fail
   go_region_with (first | (go_at_call 75; refine (HP.out _).mono ?_; rintro e w2 ⟨rfl, hb2⟩; obtain ⟨hc2, hf2⟩ := bcell hb2; (try simp only [World.size_drew] at hc2 hf2); have hz2 := hb2.size; (try simp at hz2); have HB2 := Lib.hid hb2; clear hb2; have l2 : w.heap.size < w2.heap.size := (by omega)) | (simp only [HEQ.out, Result.andThen_ok]))
   all_goals
     go_wp2
     go_ret
     have hb2 := HB2.out
     exact ⟨ret_bool HI.out.symm, by (repeat' (first | (with_reducible assumption) | (with_reducible exact Below.refl _ _) | (with_reducible refine below_drewN ?_ _) | (with_reducible refine Below.drew ?_) | (with_reducible refine Below.alloc ?_ ?_ _) | (with_reducible refine Below.setCell ?_ ?_ _) | (with_reducible refine Below.trans ?_ (Below.mono (by assumption) ?_)) | (with_reducible exact Nat.le_refl _) | (with_reducible assumption) | omega | (simp; omega) | (simp; done)))⟩

set_option maxHeartbeats 2000000 in
/-- impl.field.numbersWhere at impl.SubfieldOf$1. -/
theorem numbersWhere_sub (q : Int) (w : World) (h : isSz q = true) (r : Int) (R : Nat) (r0 : 0 ≤ r) (r1 : r ≤ 1000) (hR : R < w.heap.size) (hc : w.cell? ⟨R, 0, none⟩ = some (.int .i64 r)) :
    Calls Try.prog 92 #[fdE q, .func (.func 111) #[] #[.pointer (some ⟨R, 0, none⟩)]] w fun e w' => ∃ v, e = .returned v ∧ Row w' w.heap.size v (wh (isFix q r) q.toNat) ∧ Below w.heap.size w w' := by
  obtain ⟨i0, hi, iz0, iz1, iz2⟩ := info_parts Try.infoI
  have hq := isSz_le q h
  have HE := Lib.hid (fun w => elements_any q w h)
  have HX := Lib.hid (fun (n : Nat) w (hn : (n : Int) < q) (hR : R < w.heap.size) (hc : w.cell? ⟨R, 0, none⟩ = some (.int .i64 r)) => subA q n r R w h hn r0 r1 hR hc)
  have hzz : ∀ n, wh (isFix q r) n = wh (isFix q r) n := fun _ => rfl
  clear hzz
  obtain ⟨m, hm⟩ := Int.eq_ofNat_of_zero_le (show 0 ≤ q by omega)
  subst hm
  rw [Int.toNat_natCast] at HE ⊢
  generalize hP : (isFix (m : Int) r) = P at *
  clear hP h
  go_enter Try.func92, Try.ntmps92
  go_wp2_with fail
  refine (HE.out _).mono ?_
  rintro e w3 ⟨g, cp, rfl, hg, hkb, hel, hb3⟩
  simp at hg
  have hgl := hkb.lt
  have hb : Below w.heap.size w w3 := by (repeat' (first | (with_reducible assumption) | (with_reducible exact Below.refl _ _) | (with_reducible refine below_drewN ?_ _) | (with_reducible refine Below.drew ?_) | (with_reducible refine Below.alloc ?_ ?_ _) | (with_reducible refine Below.setCell ?_ ?_ _) | (with_reducible refine Below.trans ?_ (Below.mono (by assumption) ?_)) | (with_reducible exact Nat.le_refl _) | (with_reducible assumption) | omega | (simp; omega) | (simp; done)))
  have HK3 := Lib.hid hkb
  have HL3 := Lib.hid hel
  have HB3 := Lib.hid hb
  have HCR : Hid (∀ wr, Below w3.heap.size w3 wr → wr.cell? ⟨R, 0, none⟩ = some (.int .i64 r)) := Lib.hid (fun wr hbw => (hbw.cell (p := ⟨R, 0, none⟩) (show R < w3.heap.size by have := hb.size; omega)).trans ((hb.cell (p := ⟨R, 0, none⟩) hR).trans hc))
  have hz3 := hb.size
  clear hkb hel hb hb3
  go_wp2_with fail
  go_loopw [5, 11] (fun vo vi wr => ∃ i : Nat, i ≤ m ∧ vi = .int .i64 i ∧ Row wr w3.heap.size vo (wh P i) ∧ Below w3.heap.size w3 wr) (fun _ vi _ => m - (intOf vi).toNat)
  case atStart => exact ⟨0, Nat.zero_le _, rfl, Row.nil _ _, Below.refl _ _⟩
  case round =>
    obtain ⟨i, hi', rfl, hr, hbw⟩ := hrel
    have hz := hbw.size
    have HL := Lib.hid (wh_len P i)
    by_cases hlt : i < m
    · obtain ⟨c0, c1, c2, c3, c4, c5, c6⟩ := (HL3.out.below hbw hgl) i hlt
      have hgr : g < wr.heap.size := by omega
      have hnq : (i : Int) < (m : Int) := by omega
      have HR := Lib.hid hr; clear hr
      have HBW := Lib.hid hbw; clear hbw
      have HX' := Lib.hid (fun w hR hc => HX.out i w hnq hR hc)
      cases hp : P i with
      | true =>
        rw [hp] at HX'
        have HS := Lib.hid (wh_yes P i hp); clear hp
        go_wp2_with fail
        refine (HX'.out _ (by simp; omega) (by rw [World.cell?_alloc_past _ _ _ (by omega)]; exact (HCR.out _ HBW.out))).mono ?_
        rintro e w5 ⟨rfl, hb5⟩
        have hz_hb5 := hb5.size; (try simp at hz_hb5)
        have HR5 := Lib.hid ((HR.out.alloc (eblk (m : Int) (i : Int))).below hb5)
        have HB5 : Hid (Below wr.heap.size wr w5) := Lib.hid (by (repeat' (first | (with_reducible assumption) | (with_reducible exact Below.refl _ _) | (with_reducible refine below_drewN ?_ _) | (with_reducible refine Below.drew ?_) | (with_reducible refine Below.alloc ?_ ?_ _) | (with_reducible refine Below.setCell ?_ ?_ _) | (with_reducible refine Below.trans ?_ (Below.mono (by assumption) ?_)) | (with_reducible exact Nat.le_refl _) | (with_reducible assumption) | omega | (simp; omega) | (simp; done))))
        clear hb5
        go_wp2_with (at_builtin; refine wpList_append_own _ rfl _ _ 22 rfl w3.heap.size 3 i0 (.int .i64 0) 1 8 Try.underlying22 hi iz0 iz1 iz2 rfl (by decide) _ _ _ rfl (World.ownsRow.alloc HR5.out _) ⟨w5.heap.size, 0, none⟩ 1 1 [.int .i64 i] rfl rfl ?c1 ?c2 ?c3 ?c4 ?c5 ?_)
        case c1 => exact cell_one_new _ _ _
        case c2 => intro u hu; simp at hu; subst hu; rfl
        case c3 => have := HL.out; unfold maxLen; omega
        case c4 => have := HL.out; omega
        case c5 => simp; omega
        intro v' w6 hown hgrow _
        have HR6 := Lib.hid (Row.appended hown)
        have hb : Below w3.heap.size w3 (w5.alloc (.cells #[.int .i64 i] 3)) := (HBW.out.trans (HB5.out.mono hz)).alloc (by omega) _
        have HB6 := Lib.hid (hb.grown hgrow (by simp; omega) (fun g hg => (HR5.out.lt g hg).1))
        clear hown hgrow hb
        go_wp2
        go_roundw
        case rel => exact ⟨i + 1, by omega, by go_num, by rw [HS.out]; exact HR6.out, HB6.out⟩
        case measure => simp [intOf]; omega
      | false =>
        rw [hp] at HX'
        have HS := Lib.hid (wh_no P i hp); clear hp
        go_wp2_with fail
        refine (HX'.out _ (by simp; omega) (by rw [World.cell?_alloc_past _ _ _ (by omega)]; exact (HCR.out _ HBW.out))).mono ?_
        rintro e w5 ⟨rfl, hb5⟩
        have hz_hb5 := hb5.size; (try simp at hz_hb5)
        have HR5 := Lib.hid ((HR.out.alloc (eblk (m : Int) (i : Int))).below hb5)
        have HB5 : Hid (Below wr.heap.size wr w5) := Lib.hid (by (repeat' (first | (with_reducible assumption) | (with_reducible exact Below.refl _ _) | (with_reducible refine below_drewN ?_ _) | (with_reducible refine Below.drew ?_) | (with_reducible refine Below.alloc ?_ ?_ _) | (with_reducible refine Below.setCell ?_ ?_ _) | (with_reducible refine Below.trans ?_ (Below.mono (by assumption) ?_)) | (with_reducible exact Nat.le_refl _) | (with_reducible assumption) | omega | (simp; omega) | (simp; done))))
        clear hb5
        go_wp2
        go_roundw
        case rel => exact ⟨i + 1, by omega, by go_num, by rw [HS.out]; exact HR5.out, HBW.out.trans (HB5.out.mono hz)⟩
        case measure => simp [intOf]; omega
    · obtain rfl : m = i := by omega
      have HR := Lib.hid hr; clear hr
      have HBW := Lib.hid hbw; clear hbw
      go_wp2
      go_ret
      exact ⟨_, rfl, HR.out.mono hz3, HB3.out.trans (HBW.out.mono hz3)⟩
end Go.Proofs.Ytapglncgicfjnaa
