/- Squares other than 0; SquareWaysPermute, of both, by contracts; the walk of its law. -/
import Derived.Test.YtapglncgicfjnabGreatKI
import Derived.Test.YtapglncgicfjnabGreatKH
namespace Go.Proofs.YtapglncgicfjnabGreat
open Go.RowKit
/-- '==' on two elements, at their digits. -/
theorem eq_dg' (q x y : Int) (h : isSz q = true) (x0 : 0 ≤ x) (x1 : x < q) (y0 : 0 ≤ y) (y1 : y < q) (w : World) :
    (Op.equalIn 9999 68 (.agg #[.int .i64 (dg q x 0), .int .i64 (dg q x 1), .int .i64 (dg q x 2), .int .i64 (dg q x 3)]) (.agg #[.int .i64 (dg q y 0), .int .i64 (dg q y 1), .int .i64 (dg q y 2), .int .i64 (dg q y 3)])).run Tryz.prog w = .ok (decide (x = y)) w := by
  rw [← dg_inj q x y h x0 x1 y0 y1]
  exact eq_arr 68 Tryz.underlying68 _ _ _ _ _ _ _ _ 9997 w


/-- The property 'square'. -/
def isSqN (q : Int) (a : Nat) : Bool := isSq q (a : Int)

theorem TS.keep' {w0 wr w' : World} {q x : Int} {f : Nat → Int} {m S g B : Nat} (h : TS w0 wr q x f m S g) (hb : Below B wr w') (hg : g < B) : TS w0 w' q x f m S g := by
  have h0 := h.s0
  have h1 := h.lt
  exact ⟨(hb.block _ (by omega)).trans h.hs, h.hk.below hb hg, h.he.below hb hg, h.bel.trans (hb.mono (by omega)), h0, h1⟩

set_option maxHeartbeats 2000000 in
/-- impl.element.isSquare. -/
theorem isSquareA (q : Int) (a : Nat) (w : World) (h : isSz q = true) (ha : (a : Int) < q) :
    Calls Tryz.prog 232 #[elE q (a : Int)] w fun e w' => e = .returned (.bool (isSqN q a)) ∧ Below w.heap.size w w' := by
  have hq := isSz_le q h
  have HE := Lib.hid (fun w => elements_any q w h)
  have HT := Lib.hid (fun (n : Nat) w (hn : (n : Int) < q) => timesE q (n : Int) (n : Int) w h (by omega) hn (by omega) hn)
  have HEQ := Lib.hid (fun (n : Nat) w (hn : (n : Int) < q) => eq_dg' q (mulF q (n : Int) (n : Int)) (a : Int) h (mulF_bd q _ _ h (by omega) hn (by omega) hn).1 (mulF_bd q _ _ h (by omega) hn (by omega) hn).2 (by omega) ha w)
  have HSQ : Hid (isSqN q a = (List.range q.toNat).any fun n => mulF q (n : Int) (n : Int) == (a : Int)) := Lib.hid rfl
  generalize isSqN q a = ans at *
  generalize (a : Int) = y at *
  obtain ⟨m, hm⟩ := Int.eq_ofNat_of_zero_le (show 0 ≤ q by omega)
  subst hm
  rw [Int.toNat_natCast] at HE HSQ
  clear h ha
  go_enter Tryz.func232, Tryz.ntmps232
  go_wp2_with fail
  refine (HE.out _).mono ?_
  rintro e w3 ⟨g, cp, rfl, hg, hkb, hel, hb3⟩
  simp at hg
  have hts : TS w w3 (m : Int) y (fun j => (j : Int)) m w.heap.size g := by
    refine ⟨?_, hkb, hel, ?_, Nat.le_refl _, by omega⟩
    · rw [hb3.block _ (by simp), heap_alloc_new]
    · (repeat' (first | (with_reducible assumption) | (with_reducible exact Below.refl _ _) | (with_reducible refine below_drewN ?_ _) | (with_reducible refine Below.drew ?_) | (with_reducible refine Below.alloc ?_ ?_ _) | (with_reducible refine Below.setCell ?_ ?_ _) | (with_reducible refine Below.trans ?_ (Below.mono (by assumption) ?_)) | (with_reducible exact Nat.le_refl _) | (with_reducible assumption) | omega | (simp; omega) | (simp; done)))
  have HTS := Lib.hid hts
  clear hts hkb hel hb3
  go_wp2_with fail
  go_loopw [9] (fun vi wr => ∃ i : Nat, i ≤ m ∧ vi = .int .i64 i ∧ TS w wr (m : Int) y (fun j => (j : Int)) m w.heap.size g ∧ (∀ j, j < i → mulF (m : Int) (j : Int) (j : Int) ≠ y)) (fun vi _ => m - (intOf vi).toNat)
  case atStart => exact ⟨0, Nat.zero_le _, rfl, HTS.out, fun j hj => by omega⟩
  case round =>
    obtain ⟨i, hi, rfl, ht, hnot⟩ := hrel
    have HNOT := Lib.hid hnot; clear hnot
    obtain ⟨p0, p1, p2, p3, p4, p5, p6, pf, pl'⟩ := seven ht.hs
    have hgr := ht.hk.lt
    by_cases hlt : i < m
    · obtain ⟨c0, c1, c2, c3, c4, c5, c6⟩ := ht.he i hlt
      have hnq : (i : Int) < (m : Int) := by omega
      have HTT := Lib.hid ht; clear ht
      have HT' := Lib.hid (fun w => HT.out i w hnq)
      have HEQ' := Lib.hid (fun w => HEQ.out i w hnq)
      have HX : ∀ x, mulF (m : Int) (i : Int) (i : Int) = x → Hid (mulF (m : Int) (i : Int) (i : Int) = x) := fun x h => Lib.hid h
      generalize hx : mulF (m : Int) (i : Int) (i : Int) = x at HT' HEQ'
      have HXX := HX x hx
      clear hx HX
      by_cases hd : x = y
      · have hd' : decide (x = y) = true := by simpa using hd
        have HD := Lib.hid hd; clear hd
        go_wp2_with fail
        go_region_with (first | (go_at_call 159; refine (HT'.out _).mono ?_; rintro e w5 ⟨rfl, hb5⟩; obtain ⟨hc5, hf5⟩ := bcell hb5; (try simp only [World.size_drew] at hc5 hf5); have hz5 := hb5.size; (try simp at hz5); have HB5 := Lib.hid hb5; clear hb5; have l5 : w.heap.size < w5.heap.size := (by omega)) | (simp only [HEQ'.out, Result.andThen_ok, hd']))
        all_goals
          go_wp2
          go_ret
          refine ⟨ret_bool ?_, ?_⟩
          · rw [HSQ.out]
            symm
            rw [List.any_eq_true]
            exact ⟨i, List.mem_range.2 hlt, by rw [HXX.out, HD.out]; simp⟩
          · have hb := HTT.out.bel
            have hbz := hb.size
            have hb5 := HB5.out
            (repeat' (first | (with_reducible assumption) | (with_reducible exact Below.refl _ _) | (with_reducible refine below_drewN ?_ _) | (with_reducible refine Below.drew ?_) | (with_reducible refine Below.alloc ?_ ?_ _) | (with_reducible refine Below.setCell ?_ ?_ _) | (with_reducible refine Below.trans ?_ (Below.mono (by assumption) ?_)) | (with_reducible exact Nat.le_refl _) | (with_reducible assumption) | omega | (simp; omega) | (simp; done)))
      · have hd' : decide (x = y) = false := by simpa using hd
        have HD := Lib.hid hd; clear hd
        go_wp2_with fail
        go_region_with (first | (go_at_call 159; refine (HT'.out _).mono ?_; rintro e w5 ⟨rfl, hb5⟩; obtain ⟨hc5, hf5⟩ := bcell hb5; (try simp only [World.size_drew] at hc5 hf5); have hz5 := hb5.size; (try simp at hz5); have HB5 := Lib.hid hb5; clear hb5; have l5 : w.heap.size < w5.heap.size := (by omega)) | (simp only [HEQ'.out, Result.andThen_ok, hd']))
        all_goals
          go_wp2
          go_roundw
          case rel =>
            have hb5 := HB5.out
            refine ⟨i + 1, by omega, by go_num, ?_, ?_⟩
            · refine HTT.out.keep' (B := wr.heap.size) ?_ hgr
              (repeat' (first | (with_reducible assumption) | (with_reducible exact Below.refl _ _) | (with_reducible refine below_drewN ?_ _) | (with_reducible refine Below.drew ?_) | (with_reducible refine Below.alloc ?_ ?_ _) | (with_reducible refine Below.setCell ?_ ?_ _) | (with_reducible refine Below.trans ?_ (Below.mono (by assumption) ?_)) | (with_reducible exact Nat.le_refl _) | (with_reducible assumption) | omega | (simp; omega) | (simp; done)))
            · intro j hj
              by_cases e : j = i
              · subst e; rw [HXX.out]; exact HD.out
              · exact HNOT.out j (by omega)
          case measure => simp [intOf]; omega
    · obtain rfl : m = i := by omega
      have HTT := Lib.hid ht; clear ht
      go_wp2
      go_ret
      refine ⟨ret_bool ?_, HTT.out.bel⟩
      rw [HSQ.out]
      symm
      rw [List.any_eq_false]
      intro j hj
      simpa using HNOT.out j (List.mem_range.1 hj)
/-- A product of an element other than 0 with itself. -/
def nsq (q a : Int) : Bool := !decide (a = 0) && isSq q a
theorem nsq_zero (q : Int) : nsq q 0 = false := rfl
theorem nsq_is {q a : Int} (h : a ≠ 0) : nsq q a = isSq q a := by
  unfold nsq
  rw [decide_eq_false h]
  rfl
theorem nsq_pw {q a : Int} (h : isSz q = true) (ho : q % 2 = 1) (h0 : 0 < a) (h1 : a < q) : nsq q a = (pw q a ((q.toNat - 1) / 2) == 1) := by
  have key := of_chk1 (f := fun q a => decide (q % 2 = 1 → 0 < a → nsq q a = (pw q a ((q.toNat - 1) / 2) == 1))) (by decide +kernel) q a h (by omega) h1
  exact of_decide_eq_true key ho h0
set_option maxHeartbeats 1000000 in
/-- spec.kdSquare, for odd sizes. -/
theorem kdSquare_any (m : Nat) (a : Int) (w : World) (h : isSz (m : Int) = true) (ho : (m : Int) % 2 = 1) (a0 : 0 ≤ a) (a1 : a < m) :
    Calls Tryz.prog 218 #[.int .i64 m, .int .i64 a] w fun e w' => e = .returned (.bool (nsq m a)) ∧ Below w.heap.size w w' := by
  have hq := isSz_le (m : Int) h
  by_cases h0 : a = 0
  · subst h0
    rw [nsq_zero]
    clear h
    go_enter Tryz.func218, Tryz.ntmps218
    go_wp2
    go_ret
    exact ⟨rfl, Below.refl _ _⟩
  · have hp := nsq_pw h ho (by omega) a1
    rw [Int.toNat_natCast] at hp
    rw [hp]
    have z1 : (m : Int) - 1 = ((m - 1 : Nat) : Int) := by omega
    have z2 : ((m - 1 : Nat) : Int) / 2 = (((m - 1) / 2 : Nat) : Int) := rfl
    have HP := Lib.hid (fun w => fdPower_any (m : Int) a (((m - 1) / 2 : Nat) : Int) w h a0 a1 (by omega) (by omega))
    simp only [Int.toNat_natCast] at HP
    have hb : m - 1 ≤ 15 := by omega
    have hb2 : (m - 1) / 2 ≤ 15 := by omega
    have hne : (a != 0) = true := by simpa using h0
    clear h hp ho
    generalize pw (m : Int) a ((m - 1) / 2) = x at *
    generalize (m - 1) / 2 = r at *
    generalize m - 1 = n at *
    go_enter Tryz.func218, Tryz.ntmps218
    go_wp2_with fail
    refine (HP.out _).mono ?_
    rintro e w1 ⟨rfl, hb1⟩
    go_wp2
    go_ret
    exact ⟨by first | rfl | exact ret_bool (by by_cases hx : x = 1 <;> simp [hx]), hb1⟩
set_option maxHeartbeats 1000000 in
/-- impl.element.isNonzeroSquare. -/
theorem nonzeroSqE (m : Nat) (a : Int) (w : World) (h : isSz (m : Int) = true) (a0 : 0 ≤ a) (a1 : a < m) :
    Calls Tryz.prog 225 #[elE (m : Int) a] w fun e w' => e = .returned (.bool (nsq m a)) ∧ Below w.heap.size w w' := by
  have HZ := Lib.hid (fun w => isZeroE (m : Int) a w h a0 a1)
  by_cases h0 : a = 0
  · subst h0
    rw [nsq_zero]
    clear h
    go_enter Tryz.func225, Tryz.ntmps225
    go_wp2_with fail
    refine (HZ.out _).mono ?_
    rintro e w1 ⟨rfl, hb1⟩
    obtain ⟨hc1, hf1⟩ := bcell hb1; have hz1 := hb1.size; (try simp at hz1); have HB1 := Lib.hid hb1; clear hb1
    go_wp2
    go_ret
    have hb1 := HB1.out
    exact ⟨rfl, by (repeat' (first | (with_reducible assumption) | (with_reducible exact Below.refl _ _) | (with_reducible refine below_drewN ?_ _) | (with_reducible refine Below.drew ?_) | (with_reducible refine Below.alloc ?_ ?_ _) | (with_reducible refine Below.setCell ?_ ?_ _) | (with_reducible refine Below.trans ?_ (Below.mono (by assumption) ?_)) | (with_reducible exact Nat.le_refl _) | (with_reducible assumption) | omega | (simp; omega) | (simp; done)))⟩
  · obtain ⟨n, rfl⟩ := Int.eq_ofNat_of_zero_le a0
    rw [decide_eq_false h0] at HZ
    have hs : nsq m n = isSqN m n := nsq_is h0
    rw [hs]
    have HQ := Lib.hid (fun w => isSquareA (m : Int) n w h a1)
    clear h hs
    generalize isSqN m n = r at *
    go_enter Tryz.func225, Tryz.ntmps225
    go_wp2_with fail
    refine (HZ.out _).mono ?_
    rintro e w1 ⟨rfl, hb1⟩
    obtain ⟨hc1, hf1⟩ := bcell hb1; have hz1 := hb1.size; (try simp at hz1); have HB1 := Lib.hid hb1; clear hb1
    go_wp2_with fail
    refine (HQ.out _).mono ?_
    rintro e w2 ⟨rfl, hb2⟩
    obtain ⟨hc2, hf2⟩ := bcell hb2; have hz2 := hb2.size; (try simp at hz2); have HB2 := Lib.hid hb2; clear hb2
    go_wp2
    go_ret
    have hb1 := HB1.out
    have hb2 := HB2.out
    exact ⟨rfl, by (repeat' (first | (with_reducible assumption) | (with_reducible exact Below.refl _ _) | (with_reducible refine below_drewN ?_ _) | (with_reducible refine Below.drew ?_) | (with_reducible refine Below.alloc ?_ ?_ _) | (with_reducible refine Below.setCell ?_ ?_ _) | (with_reducible refine Below.trans ?_ (Below.mono (by assumption) ?_)) | (with_reducible exact Nat.le_refl _) | (with_reducible assumption) | omega | (simp; omega) | (simp; done)))⟩
/-- An odd size, and two elements. -/
def odp (q a b : Int) : Bool := (inE q a && inE q b) && decide (q % 2 = 1)
theorem odp_nat {q a b : Int} (h : odp q a b = true) : ∃ m : Nat, q = (m : Int) ∧ isSz (m : Int) = true ∧ (m : Int) % 2 = 1 ∧ inE (m : Int) a = true ∧ inE (m : Int) b = true := by
  simp only [odp, Bool.and_eq_true, decide_eq_true_eq] at h
  obtain ⟨⟨ha, hb⟩, ho⟩ := h
  have hs := (inE_yes ha).1
  have hq := isSz_le q hs
  obtain ⟨m, rfl⟩ := Int.eq_ofNat_of_zero_le (show 0 ≤ q by omega)
  exact ⟨m, rfl, hs, ho, ha, hb⟩
end Go.Proofs.YtapglncgicfjnabGreat
