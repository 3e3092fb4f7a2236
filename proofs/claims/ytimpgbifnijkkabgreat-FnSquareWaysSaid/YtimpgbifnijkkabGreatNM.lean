/- Squares other than 0; SquareWaysPermute, of both, by contracts; the walk of its law. -/
import Derived.Test.YtimpgbifnijkkabGreatKI
import Derived.Test.YtimpgbifnijkkabGreatKH
namespace Go.Proofs.YtimpgbifnijkkabGreat
open Go.RowKit
/-- '==' on two elements, at their digits. -/
theorem eq_dg' (q x y : Int) (h : isSz q = true) (x0 : 0 ≤ x) (x1 : x < q) (y0 : 0 ≤ y) (y1 : y < q) (w : World) :
    (Op.equalIn 9999 49 (.agg #[.int .i64 (dg q x 0), .int .i64 (dg q x 1), .int .i64 (dg q x 2), .int .i64 (dg q x 3)]) (.agg #[.int .i64 (dg q y 0), .int .i64 (dg q y 1), .int .i64 (dg q y 2), .int .i64 (dg q y 3)])).run Tryz.prog w = .ok (decide (x = y)) w := by
  rw [← dg_inj q x y h x0 x1 y0 y1]
  exact eq_arr 49 Tryz.underlying49 _ _ _ _ _ _ _ _ 9997 w


/-- The property 'square'. -/
def isSqN (q : Int) (a : Nat) : Bool := isSq q (a : Int)

theorem TS.keep' {w0 wr w' : World} {q x : Int} {f : Nat → Int} {m S g B : Nat} (h : TS w0 wr q x f m S g) (hb : Below B wr w') (hg : g < B) : TS w0 w' q x f m S g := by
  have h0 := h.s0
  have h1 := h.lt
  exact ⟨(hb.block _ (by omega)).trans h.hs, h.hk.below hb hg, h.he.below hb hg, h.bel.trans (hb.mono (by omega)), h0, h1⟩

set_option maxHeartbeats 2000000 in
/-- impl.element.isSquare. -/
theorem isSquareA (q : Int) (a : Nat) (w : World) (h : isSz q = true) (ha : (a : Int) < q) :
    Calls Tryz.prog 54 #[elE q (a : Int)] w fun e w' => e = .returned (.bool (isSqN q a)) ∧ Below w.heap.size w w' := by
  have hq := isSz_le q h
  have HE := Lib.hid (fun w => elements_any q w h)
  have HT := Lib.hid (fun (n : Nat) w (hn : (n : Int) < q) => timesE q (n : Int) (n : Int) w h (by omega) hn (by omega) hn)
  have HEQ := Lib.hid (fun (n : Nat) w (hn : (n : Int) < q) => eq_dg' q (mulF q (n : Int) (n : Int)) (a : Int) h (mulF_bd q _ _ h (by omega) hn (by omega) hn).1 (mulF_bd q _ _ h (by omega) hn (by omega) hn).2 (by omega) ha w)
  have HSQ : Hid (isSqN q a = (List.range q.toNat).any fun n => mulF q (n : Int) (n : Int) == (a : Int)) := Lib.hid rfl
  generalize isSqN q a = ans at *
  generalize (a : Int) = y at *
  obtain ⟨m, hm⟩ := Int.eq_ofNat_of_zero_le (show 0 ≤ q by omega)
  subst hm
  rw [Int.toNat_natCast] at HE HSQ
  clear h ha
  go_enter Tryz.func54, Tryz.ntmps54
  go_wp2_with fail
  refine (HE.out _).mono ?_
  rintro e w3 ⟨g, cp, rfl, hg, hkb, hel, hb3⟩
  simp at hg
  have hts : TS w w3 (m : Int) y (fun j => (j : Int)) m w.heap.size g := by
    refine ⟨?_, hkb, hel, ?_, Nat.le_refl _, by omega⟩
    · rw [hb3.block _ (by simp), heap_alloc_new]
    · (repeat' (first | (with_reducible assumption) | (with_reducible exact Below.refl _ _) | (with_reducible refine below_drewN ?_ _) | (with_reducible refine Below.drew ?_) | (with_reducible refine Below.alloc ?_ ?_ _) | (with_reducible refine Below.setCell ?_ ?_ _) | (with_reducible refine Below.trans ?_ (Below.mono (by assumption) ?_)) | (with_reducible exact Nat.le_refl _) | (with_reducible assumption) | omega | (simp; omega) | (simp; done)))
  have HTS := Lib.hid hts
  clear hts hkb hel hb3
  go_wp2_with fail
  go_loopw [9] (fun vi wr => ∃ i : Nat, i ≤ m ∧ vi = .int .i64 i ∧ TS w wr (m : Int) y (fun j => (j : Int)) m w.heap.size g ∧ (∀ j, j < i → mulF (m : Int) (j : Int) (j : Int) ≠ y)) (fun vi _ => m - (intOf vi).toNat)
  case atStart => exact ⟨0, Nat.zero_le _, rfl, HTS.out, fun j hj => by omega⟩
  case round =>
    obtain ⟨i, hi, rfl, ht, hnot⟩ := hrel
    have HNOT := Lib.hid hnot; clear hnot
    obtain ⟨p0, p1, p2, p3, p4, p5, p6, pf, pl'⟩ := seven ht.hs
    have hgr := ht.hk.lt
    by_cases hlt : i < m
    · obtain ⟨c0, c1, c2, c3, c4, c5, c6⟩ := ht.he i hlt
      have hnq : (i : Int) < (m : Int) := by omega
      have HTT := Lib.hid ht; clear ht
      have HT' := Lib.hid (fun w => HT.out i w hnq)
      have HEQ' := Lib.hid (fun w => HEQ.out i w hnq)
      have HX : ∀ x, mulF (m : Int) (i : Int) (i : Int) = x → Hid (mulF (m : Int) (i : Int) (i : Int) = x) := fun x h => Lib.hid h
      generalize hx : mulF (m : Int) (i : Int) (i : Int) = x at HT' HEQ'
      have HXX := HX x hx
      clear hx HX
      by_cases hd : x = y
      · have hd' : decide (x = y) = true := by simpa using hd
        have HD := Lib.hid hd; clear hd
        go_wp2_with fail
        go_region_with (first | (go_at_call 26; refine (HT'.out _).mono ?_; rintro e w5 ⟨rfl, hb5⟩; obtain ⟨hc5, hf5⟩ := bcell hb5; (try simp only [World.size_drew] at hc5 hf5); have hz5 := hb5.size; (try simp at hz5); have HB5 := Lib.hid hb5; clear hb5; have l5 : w.heap.size < w5.heap.size := (by omega)) | (simp only [HEQ'.out, Result.andThen_ok, hd']))
        all_goals
          go_wp2
          go_ret
          refine ⟨ret_bool ?_, ?_⟩
          · rw [HSQ.out]
            symm
            rw [List.any_eq_true]
            exact ⟨i, List.mem_range.2 hlt, by rw [HXX.out, HD.out]; simp⟩
          · have hb := HTT.out.bel
            have hbz := hb.size
            have hb5 := HB5.out
            (repeat' (first | (with_reducible assumption) | (with_reducible exact Below.refl _ _) | (with_reducible refine below_drewN ?_ _) | (with_reducible refine Below.drew ?_) | (with_reducible refine Below.alloc ?_ ?_ _) | (with_reducible refine Below.setCell ?_ ?_ _) | (with_reducible refine Below.trans ?_ (Below.mono (by assumption) ?_)) | (with_reducible exact Nat.le_refl _) | (with_reducible assumption) | omega | (simp; omega) | (simp; done)))
      · have hd' : decide (x = y) = false := by simpa using hd
        have HD := Lib.hid hd; clear hd
        go_wp2_with fail
        go_region_with (first | (go_at_call 26; refine (HT'.out _).mono ?_; rintro e w5 ⟨rfl, hb5⟩; obtain ⟨hc5, hf5⟩ := bcell hb5; (try simp only [World.size_drew] at hc5 hf5); have hz5 := hb5.size; (try simp at hz5); have HB5 := Lib.hid hb5; clear hb5; have l5 : w.heap.size < w5.heap.size := (by omega)) | (simp only [HEQ'.out, Result.andThen_ok, hd']))
        all_goals
          go_wp2
          go_roundw
          case rel =>
            have hb5 := HB5.out
            refine ⟨i + 1, by omega, by go_num, ?_, ?_⟩
            · refine HTT.out.keep' (B := wr.heap.size) ?_ hgr
              (repeat' (first | (with_reducible assumption) | (with_reducible exact Below.refl _ _) | (with_reducible refine below_drewN ?_ _) | (with_reducible refine Below.drew ?_) | (with_reducible refine Below.alloc ?_ ?_ _) | (with_reducible refine Below.setCell ?_ ?_ _) | (with_reducible refine Below.trans ?_ (Below.mono (by assumption) ?_)) | (with_reducible exact Nat.le_refl _) | (with_reducible assumption) | omega | (simp; omega) | (simp; done)))
            · intro j hj
              by_cases e : j = i
              · subst e; rw [HXX.out]; exact HD.out
              · exact HNOT.out j (by omega)
          case measure => simp [intOf]; omega
    · obtain rfl : m = i := by omega
      have HTT := Lib.hid ht; clear ht
      go_wp2
      go_ret
      refine ⟨ret_bool ?_, HTT.out.bel⟩
      rw [HSQ.out]
      symm
      rw [List.any_eq_false]
      intro j hj
      simpa using HNOT.out j (List.mem_range.1 hj)
/-- A product of an element other than 0 with itself. -/
def nsq (q a : Int) : Bool := !decide (a = 0) && isSq q a
theorem nsq_zero (q : Int) : nsq q 0 = false := rfl
theorem nsq_is {q a : Int} (h : a ≠ 0) : nsq q a = isSq q a := by
  unfold nsq
  rw [decide_eq_false h]
  rfl
theorem nsq_pw {q a : Int} (h : isSz q = true) (ho : q % 2 = 1) (h0 : 0 < a) (h1 : a < q) : nsq q a = (pw q a ((q.toNat - 1) / 2) == 1) := by
  have key := of_chk1 (f := fun q a => decide (q % 2 = 1 → 0 < a → nsq q a = (pw q a ((q.toNat - 1) / 2) == 1))) (by decide +kernel) q a h (by omega) h1
  exact of_decide_eq_true key ho h0
set_option maxHeartbeats 1000000 in
/-- spec.kdSquare, for odd sizes. -/
theorem kdSquare_any (m : Nat) (a : Int) (w : World) (h : isSz (m : Int) = true) (ho : (m : Int) % 2 = 1) (a0 : 0 ≤ a) (a1 : a < m) :
    Calls Tryz.prog 33 #[.int .i64 m, .int .i64 a] w fun e w' => e = .returned (.bool (nsq m a)) ∧ Below w.heap.size w w' := by
  have hq := isSz_le (m : Int) h
  by_cases h0 : a = 0
  · subst h0
    rw [nsq_zero]
    clear h
    go_enter Tryz.func33, Tryz.ntmps33
    go_wp2
    go_ret
    exact ⟨rfl, Below.refl _ _⟩
  · have hp := nsq_pw h ho (by omega) a1
    rw [Int.toNat_natCast] at hp
    rw [hp]
    have z1 : (m : Int) - 1 = ((m - 1 : Nat) : Int) := by omega
    have z2 : ((m - 1 : Nat) : Int) / 2 = (((m - 1) / 2 : Nat) : Int) := rfl
    have HP := Lib.hid (fun w => fdPower_any (m : Int) a (((m - 1) / 2 : Nat) : Int) w h a0 a1 (by omega) (by omega))
    simp only [Int.toNat_natCast] at HP
    have hb : m - 1 ≤ 15 := by omega
    have hb2 : (m - 1) / 2 ≤ 15 := by omega
    have hne : (a != 0) = true := by simpa using h0
    clear h hp ho
    generalize pw (m : Int) a ((m - 1) / 2) = x at *
    generalize (m - 1) / 2 = r at *
    generalize m - 1 = n at *
    go_enter Tryz.func33, Tryz.ntmps33
    go_wp2_with fail
    refine (HP.out _).mono ?_
    rintro e w1 ⟨rfl, hb1⟩
    go_wp2
    go_ret
    exact ⟨by first | rfl | exact ret_bool (by by_cases hx : x = 1 <;> simp [hx]), hb1⟩
set_option maxHeartbeats 1000000 in
/-- impl.element.isNonzeroSquare. -/
theorem nonzeroSqE (m : Nat) (a : Int) (w : World) (h : isSz (m : Int) = true) (a0 : 0 ≤ a) (a1 : a < m) :
    Calls Tryz.prog 25 #[elE (m : Int) a] w fun e w' => e = .returned (.bool (nsq m a)) ∧ Below w.heap.size w w' := by
  have HZ := Lib.hid (fun w => isZeroE (m : Int) a w h a0 a1)
  by_cases h0 : a = 0
  · subst h0
    rw [nsq_zero]
    clear h
    go_enter Tryz.func25, Tryz.ntmps25
    go_wp2_with fail
    refine (HZ.out _).mono ?_
    rintro e w1 ⟨rfl, hb1⟩
    obtain ⟨hc1, hf1⟩ := bcell hb1; have hz1 := hb1.size; (try simp at hz1); have HB1 := Lib.hid hb1; clear hb1
    go_wp2
    go_ret
    have hb1 := HB1.out
    exact ⟨rfl, by (repeat' (first | (with_reducible assumption) | (with_reducible exact Below.refl _ _) | (with_reducible refine below_drewN ?_ _) | (with_reducible refine Below.drew ?_) | (with_reducible refine Below.alloc ?_ ?_ _) | (with_reducible refine Below.setCell ?_ ?_ _) | (with_reducible refine Below.trans ?_ (Below.mono (by assumption) ?_)) | (with_reducible exact Nat.le_refl _) | (with_reducible assumption) | omega | (simp; omega) | (simp; done)))⟩
  · obtain ⟨n, rfl⟩ := Int.eq_ofNat_of_zero_le a0
    rw [decide_eq_false h0] at HZ
    have hs : nsq m n = isSqN m n := nsq_is h0
    rw [hs]
    have HQ := Lib.hid (fun w => isSquareA (m : Int) n w h a1)
    clear h hs
    generalize isSqN m n = r at *
    go_enter Tryz.func25, Tryz.ntmps25
    go_wp2_with fail
    refine (HZ.out _).mono ?_
    rintro e w1 ⟨rfl, hb1⟩
    obtain ⟨hc1, hf1⟩ := bcell hb1; have hz1 := hb1.size; (try simp at hz1); have HB1 := Lib.hid hb1; clear hb1
    go_wp2_with fail
    refine (HQ.out _).mono ?_
    rintro e w2 ⟨rfl, hb2⟩
    obtain ⟨hc2, hf2⟩ := bcell hb2; have hz2 := hb2.size; (try simp at hz2); have HB2 := Lib.hid hb2; clear hb2
    go_wp2
    go_ret
    have hb1 := HB1.out
    have hb2 := HB2.out
    exact ⟨rfl, by (repeat' (first | (with_reducible assumption) | (with_reducible exact Below.refl _ _) | (with_reducible refine below_drewN ?_ _) | (with_reducible refine Below.drew ?_) | (with_reducible refine Below.alloc ?_ ?_ _) | (with_reducible refine Below.setCell ?_ ?_ _) | (with_reducible refine Below.trans ?_ (Below.mono (by assumption) ?_)) | (with_reducible exact Nat.le_refl _) | (with_reducible assumption) | omega | (simp; omega) | (simp; done)))⟩
/-- An odd size, and two elements. -/
def odp (q a b : Int) : Bool := (inE q a && inE q b) && decide (q % 2 = 1)
theorem odp_nat {q a b : Int} (h : odp q a b = true) : ∃ m : Nat, q = (m : Int) ∧ isSz (m : Int) = true ∧ (m : Int) % 2 = 1 ∧ inE (m : Int) a = true ∧ inE (m : Int) b = true := by
  simp only [odp, Bool.and_eq_true, decide_eq_true_eq] at h
  obtain ⟨⟨ha, hb⟩, ho⟩ := h
  have hs := (inE_yes ha).1
  have hq := isSz_le q hs
  obtain ⟨m, rfl⟩ := Int.eq_ofNat_of_zero_le (show 0 ≤ q by omega)
  exact ⟨m, rfl, hs, ho, ha, hb⟩
set_option maxHeartbeats 1000000 in
/-- spec.kdOdd. -/
theorem kdOdd_any (q a b : Int) (w : World) :
    Calls Tryz.prog 31 #[.int .i64 q, .int .i64 a, .int .i64 b] w fun e w' => e = .returned (.bool (odp q a b)) ∧ Below w.heap.size w w' := by
  have HA := Lib.hid (fun w => fdIn_any q a w)
  have HB := Lib.hid (fun w => fdIn_any q b w)
  cases ha : inE q a with
  | false =>
    have e0 : odp q a b = false := by unfold odp; rw [ha, Bool.false_and, Bool.false_and]
    rw [ha] at HA
    rw [e0]
    clear ha e0
    go_enter Tryz.func31, Tryz.ntmps31
    go_wp2_with fail
    refine (HA.out _).mono ?_
    rintro e w1 ⟨rfl, hb1⟩
    go_wp2
    go_ret
    exact ⟨rfl, hb1⟩
  | true =>
    rw [ha] at HA
    cases hb : inE q b with
    | false =>
      have e0 : odp q a b = false := by unfold odp; rw [hb, Bool.and_false, Bool.false_and]
      rw [hb] at HB
      rw [e0]
      clear ha hb e0
      go_enter Tryz.func31, Tryz.ntmps31
      go_wp2_with fail
      refine (HA.out _).mono ?_
      rintro e w1 ⟨rfl, hb1⟩
      have hz_hb1 := hb1.size; (try simp at hz_hb1)
      go_wp2_with fail
      refine (HB.out _).mono ?_
      rintro e w2 ⟨rfl, hb2⟩
      go_wp2
      go_ret
      exact ⟨rfl, by (repeat' (first | (with_reducible assumption) | (with_reducible exact Below.refl _ _) | (with_reducible refine below_drewN ?_ _) | (with_reducible refine Below.drew ?_) | (with_reducible refine Below.alloc ?_ ?_ _) | (with_reducible refine Below.setCell ?_ ?_ _) | (with_reducible refine Below.trans ?_ (Below.mono (by assumption) ?_)) | (with_reducible exact Nat.le_refl _) | (with_reducible assumption) | omega | (simp; omega) | (simp; done)))⟩
    | true =>
      have e0 : odp q a b = decide (q % 2 = 1) := by unfold odp; rw [ha, hb, Bool.true_and, Bool.true_and]
      rw [hb] at HB
      rw [e0]
      have hs := (inE_yes ha).1
      have hq := isSz_le q hs
      obtain ⟨m, rfl⟩ := Int.eq_ofNat_of_zero_le (show 0 ≤ q by omega)
      clear ha hb e0 hs
      by_cases ho : (m : Int) % 2 = 1
      · rw [decide_eq_true ho]
        have e1 : ((m : Int) % 2 == 1) = true := by simpa using ho
        go_enter Tryz.func31, Tryz.ntmps31
        go_wp2_with fail
        refine (HA.out _).mono ?_
        rintro e w1 ⟨rfl, hb1⟩
        have hz_hb1 := hb1.size; (try simp at hz_hb1)
        go_wp2_with fail
        refine (HB.out _).mono ?_
        rintro e w2 ⟨rfl, hb2⟩
        go_wp2
        go_ret
        exact ⟨rfl, by (repeat' (first | (with_reducible assumption) | (with_reducible exact Below.refl _ _) | (with_reducible refine below_drewN ?_ _) | (with_reducible refine Below.drew ?_) | (with_reducible refine Below.alloc ?_ ?_ _) | (with_reducible refine Below.setCell ?_ ?_ _) | (with_reducible refine Below.trans ?_ (Below.mono (by assumption) ?_)) | (with_reducible exact Nat.le_refl _) | (with_reducible assumption) | omega | (simp; omega) | (simp; done)))⟩
      · rw [decide_eq_false ho]
        have ho' : (m : Int) % 2 = 0 := by omega
        go_enter Tryz.func31, Tryz.ntmps31
        go_wp2_with fail
        refine (HA.out _).mono ?_
        rintro e w1 ⟨rfl, hb1⟩
        have hz_hb1 := hb1.size; (try simp at hz_hb1)
        go_wp2_with fail
        refine (HB.out _).mono ?_
        rintro e w2 ⟨rfl, hb2⟩
        go_wp2
        go_ret
        exact ⟨rfl, by (repeat' (first | (with_reducible assumption) | (with_reducible exact Below.refl _ _) | (with_reducible refine below_drewN ?_ _) | (with_reducible refine Below.drew ?_) | (with_reducible refine Below.alloc ?_ ?_ _) | (with_reducible refine Below.setCell ?_ ?_ _) | (with_reducible refine Below.trans ?_ (Below.mono (by assumption) ?_)) | (with_reducible exact Nat.le_refl _) | (with_reducible assumption) | omega | (simp; omega) | (simp; done)))⟩
set_option maxHeartbeats 2000000 in
/-- impl.oddPairOf. -/
theorem oddPairOf_yes (m : Nat) (a b : Int) (w : World) (ha : inE (m : Int) a = true) (hb : inE (m : Int) b = true) (ho : (m : Int) % 2 = 1) :
    Calls Tryz.prog 23 #[.int .i64 m, .int .i64 a, .int .i64 b] w fun e w' => e = .returned (.tuple #[elE (m : Int) a, elE (m : Int) b, .bool true]) ∧ Below w.heap.size w w' := by
  have HA := Lib.hid (fun w => pairOf_yes (m : Int) a b w ha hb)
  have hne : ((m : Int) % 2 == 0) = false := by rw [ho]; rfl
  clear ha hb
  go_enter Tryz.func23, Tryz.ntmps23
  go_wp2_with fail
  refine (HA.out _).mono ?_
  rintro e w1 ⟨rfl, hb1⟩
  obtain ⟨hc1, hf1⟩ := bcell hb1; have hz1 := hb1.size; (try simp at hz1); have HB1 := Lib.hid hb1; clear hb1
  have hl0 : w.heap.size < w1.heap.size := by omega
  have hl1 : w.heap.size + 1 < w1.heap.size := by omega
  go_wp2_with fail
  go_region
  all_goals
    go_wp2
    have hb1 := HB1.out
    have r : ∀ o, w1.cell? ⟨w.heap.size, o, none⟩ = ((w.alloc zblk).alloc zblk).cell? ⟨w.heap.size, o, none⟩ := fun o => Below.cell (B := w.heap.size + 2) (by (repeat' (first | (with_reducible assumption) | (with_reducible exact Below.refl _ _) | (with_reducible refine below_drewN ?_ _) | (with_reducible refine Below.drew ?_) | (with_reducible refine Below.alloc ?_ ?_ _) | (with_reducible refine Below.setCell ?_ ?_ _) | (with_reducible refine Below.trans ?_ (Below.mono (by assumption) ?_)) | (with_reducible exact Nat.le_refl _) | (with_reducible assumption) | omega | (simp; omega) | (simp; done)))) (by simp)
    have r' : ∀ o, w1.cell? ⟨w.heap.size + 1, o, none⟩ = ((w.alloc zblk).alloc zblk).cell? ⟨w.heap.size + 1, o, none⟩ := fun o => Below.cell (B := w.heap.size + 2) (by (repeat' (first | (with_reducible assumption) | (with_reducible exact Below.refl _ _) | (with_reducible refine below_drewN ?_ _) | (with_reducible refine Below.drew ?_) | (with_reducible refine Below.alloc ?_ ?_ _) | (with_reducible refine Below.setCell ?_ ?_ _) | (with_reducible refine Below.trans ?_ (Below.mono (by assumption) ?_)) | (with_reducible exact Nat.le_refl _) | (with_reducible assumption) | omega | (simp; omega) | (simp; done)))) (by simp)
    refine bodyPost_ret (v := .tuple #[elE (m : Int) a, elE (m : Int) b, .bool true]) (by simp [results, Tryz.results23, go_sem, r, r', zblk, hl0, hl1]) rfl ⟨rfl, ?_⟩
    (repeat' (first | (with_reducible assumption) | (with_reducible exact Below.refl _ _) | (with_reducible refine below_drewN ?_ _) | (with_reducible refine Below.drew ?_) | (with_reducible refine Below.alloc ?_ ?_ _) | (with_reducible refine Below.setCell ?_ ?_ _) | (with_reducible refine Below.trans ?_ (Below.mono (by assumption) ?_)) | (with_reducible exact Nat.le_refl _) | (with_reducible assumption) | omega | (simp; omega) | (simp; done)))
theorem oddPairOf_no1 (q a b : Int) (w : World) (h : (inE q a && inE q b) = false) :
    Calls Tryz.prog 23 #[.int .i64 q, .int .i64 a, .int .i64 b] w fun e w' => e = .returned (.tuple #[elZ, elZ, .bool false]) ∧ Below w.heap.size w w' := by
  have HA : Hid (∀ w, Calls Tryz.prog 52 #[.int .i64 q, .int .i64 a, .int .i64 b] w fun e w' => e = .returned (.tuple #[elZ, elZ, .bool false]) ∧ Below w.heap.size w w') := Lib.hid fun w => by
    cases ha : inE q a with
    | false =>
      cases hb : inE q b with
      | false => exact pairOf_no1 q a b w ha hb
      | true => exact pairOf_no2 q a b w ha hb
    | true =>
      rw [ha, Bool.true_and] at h
      exact pairOf_no3 q a b w ha h
  clear h
  go_enter Tryz.func23, Tryz.ntmps23
  go_wp2_with fail
  refine (HA.out _).mono ?_
  rintro e w1 ⟨rfl, hb1⟩
  obtain ⟨hc1, hf1⟩ := bcell hb1; have hz1 := hb1.size; (try simp at hz1); have HB1 := Lib.hid hb1; clear hb1
  have hl0 : w.heap.size < w1.heap.size := by omega
  have hl1 : w.heap.size + 1 < w1.heap.size := by omega
  go_wp2_with fail
  have hb1 := HB1.out
  have r : ∀ o, w1.cell? ⟨w.heap.size, o, none⟩ = ((w.alloc zblk).alloc zblk).cell? ⟨w.heap.size, o, none⟩ := fun o => Below.cell (B := w.heap.size + 2) (by (repeat' (first | (with_reducible assumption) | (with_reducible exact Below.refl _ _) | (with_reducible refine below_drewN ?_ _) | (with_reducible refine Below.drew ?_) | (with_reducible refine Below.alloc ?_ ?_ _) | (with_reducible refine Below.setCell ?_ ?_ _) | (with_reducible refine Below.trans ?_ (Below.mono (by assumption) ?_)) | (with_reducible exact Nat.le_refl _) | (with_reducible assumption) | omega | (simp; omega) | (simp; done)))) (by simp)
  have r' : ∀ o, w1.cell? ⟨w.heap.size + 1, o, none⟩ = ((w.alloc zblk).alloc zblk).cell? ⟨w.heap.size + 1, o, none⟩ := fun o => Below.cell (B := w.heap.size + 2) (by (repeat' (first | (with_reducible assumption) | (with_reducible exact Below.refl _ _) | (with_reducible refine below_drewN ?_ _) | (with_reducible refine Below.drew ?_) | (with_reducible refine Below.alloc ?_ ?_ _) | (with_reducible refine Below.setCell ?_ ?_ _) | (with_reducible refine Below.trans ?_ (Below.mono (by assumption) ?_)) | (with_reducible exact Nat.le_refl _) | (with_reducible assumption) | omega | (simp; omega) | (simp; done)))) (by simp)
  refine bodyPost_ret (v := .tuple #[elZ, elZ, .bool false]) (by simp [results, Tryz.results23, go_sem, r, r', zblk, hl0, hl1]) rfl ⟨rfl, ?_⟩
  (repeat' (first | (with_reducible assumption) | (with_reducible exact Below.refl _ _) | (with_reducible refine below_drewN ?_ _) | (with_reducible refine Below.drew ?_) | (with_reducible refine Below.alloc ?_ ?_ _) | (with_reducible refine Below.setCell ?_ ?_ _) | (with_reducible refine Below.trans ?_ (Below.mono (by assumption) ?_)) | (with_reducible exact Nat.le_refl _) | (with_reducible assumption) | omega | (simp; omega) | (simp; done)))
theorem oddPairOf_no2 (m : Nat) (a b : Int) (w : World) (ha : inE (m : Int) a = true) (hb : inE (m : Int) b = true) (ho : (m : Int) % 2 = 0) :
    Calls Tryz.prog 23 #[.int .i64 m, .int .i64 a, .int .i64 b] w fun e w' => e = .returned (.tuple #[elZ, elZ, .bool false]) ∧ Below w.heap.size w w' := by
  have HA := Lib.hid (fun w => pairOf_yes (m : Int) a b w ha hb)
  clear ha hb
  go_enter Tryz.func23, Tryz.ntmps23
  go_wp2_with fail
  refine (HA.out _).mono ?_
  rintro e w1 ⟨rfl, hb1⟩
  obtain ⟨hc1, hf1⟩ := bcell hb1; have hz1 := hb1.size; (try simp at hz1); have HB1 := Lib.hid hb1; clear hb1
  have hl0 : w.heap.size < w1.heap.size := by omega
  have hl1 : w.heap.size + 1 < w1.heap.size := by omega
  go_wp2_with fail
  have hb1 := HB1.out
  have r : ∀ o, w1.cell? ⟨w.heap.size, o, none⟩ = ((w.alloc zblk).alloc zblk).cell? ⟨w.heap.size, o, none⟩ := fun o => Below.cell (B := w.heap.size + 2) (by (repeat' (first | (with_reducible assumption) | (with_reducible exact Below.refl _ _) | (with_reducible refine below_drewN ?_ _) | (with_reducible refine Below.drew ?_) | (with_reducible refine Below.alloc ?_ ?_ _) | (with_reducible refine Below.setCell ?_ ?_ _) | (with_reducible refine Below.trans ?_ (Below.mono (by assumption) ?_)) | (with_reducible exact Nat.le_refl _) | (with_reducible assumption) | omega | (simp; omega) | (simp; done)))) (by simp)
  have r' : ∀ o, w1.cell? ⟨w.heap.size + 1, o, none⟩ = ((w.alloc zblk).alloc zblk).cell? ⟨w.heap.size + 1, o, none⟩ := fun o => Below.cell (B := w.heap.size + 2) (by (repeat' (first | (with_reducible assumption) | (with_reducible exact Below.refl _ _) | (with_reducible refine below_drewN ?_ _) | (with_reducible refine Below.drew ?_) | (with_reducible refine Below.alloc ?_ ?_ _) | (with_reducible refine Below.setCell ?_ ?_ _) | (with_reducible refine Below.trans ?_ (Below.mono (by assumption) ?_)) | (with_reducible exact Nat.le_refl _) | (with_reducible assumption) | omega | (simp; omega) | (simp; done)))) (by simp)
  refine bodyPost_ret (v := .tuple #[elZ, elZ, .bool false]) (by simp [results, Tryz.results23, go_sem, r, r', zblk, hl0, hl1]) rfl ⟨rfl, ?_⟩
  (repeat' (first | (with_reducible assumption) | (with_reducible exact Below.refl _ _) | (with_reducible refine below_drewN ?_ _) | (with_reducible refine Below.drew ?_) | (with_reducible refine Below.alloc ?_ ?_ _) | (with_reducible refine Below.setCell ?_ ?_ _) | (with_reducible refine Below.trans ?_ (Below.mono (by assumption) ?_)) | (with_reducible exact Nat.le_refl _) | (with_reducible assumption) | omega | (simp; omega) | (simp; done)))
theorem oddPairOf_no (q a b : Int) (w : World) (h : odp q a b = false) :
    Calls Tryz.prog 23 #[.int .i64 q, .int .i64 a, .int .i64 b] w fun e w' => e = .returned (.tuple #[elZ, elZ, .bool false]) ∧ Below w.heap.size w w' := by
  cases hp : inE q a && inE q b with
  | false => exact oddPairOf_no1 q a b w hp
  | true =>
    have hp2 := hp
    simp only [Bool.and_eq_true] at hp2
    have hs := (inE_yes hp2.1).1
    have hq := isSz_le q hs
    obtain ⟨m, rfl⟩ := Int.eq_ofNat_of_zero_le (show 0 ≤ q by omega)
    unfold odp at h
    rw [hp, Bool.true_and, decide_eq_false_iff_not] at h
    exact oddPairOf_no2 m a b w hp2.1 hp2.2 (by omega)
set_option maxHeartbeats 1000000 in
theorem spec_SquareWaysPermute_yes (m : Nat) (a b : Int) (w : World) (hd : odp (m : Int) a b = true) (h : isSz (m : Int) = true) (ho : (m : Int) % 2 = 1) (ha : inE (m : Int) a = true) (hb : inE (m : Int) b = true) :
    Calls Tryz.prog 9 #[.int .i64 m, .int .i64 a, .int .i64 b] w fun e w' => e = .returned (.tuple #[.bool (nsq m (mulF m a b)), .bool true]) ∧ Below w.heap.size w w' := by
  obtain ⟨_, a0, a1⟩ := inE_yes ha
  obtain ⟨_, b0, b1⟩ := inE_yes hb
  have hm := mulF_bd (m : Int) a b h a0 a1 b0 b1
  have HO := Lib.hid (fun w => kdOdd_any (m : Int) a b w)
  rw [hd] at HO
  have HT := Lib.hid (fun w => fdTimes_any (m : Int) a b w h a0 a1 b0 b1)
  have HS := Lib.hid (fun w => kdSquare_any m (mulF m a b) w h ho hm.1 hm.2)
  clear h ha hb hd hm ho
  generalize nsq m (mulF m a b) = r at *
  generalize mulF (m : Int) a b = x at *
  go_enter Tryz.func9, Tryz.ntmps9
  go_wp2_with fail
  refine (HO.out _).mono ?_
  rintro e w1 ⟨rfl, hb1⟩
  obtain ⟨hc1, hf1⟩ := bcell hb1; have hz1 := hb1.size; (try simp at hz1); have HB1 := Lib.hid hb1; clear hb1
  go_wp2_with fail
  refine (HT.out _).mono ?_
  rintro e w2 ⟨rfl, hb2⟩
  obtain ⟨hc2, hf2⟩ := bcell hb2; have hz2 := hb2.size; (try simp at hz2); have HB2 := Lib.hid hb2; clear hb2
  go_wp2_with fail
  refine (HS.out _).mono ?_
  rintro e w3 ⟨rfl, hb3⟩
  obtain ⟨hc3, hf3⟩ := bcell hb3; have hz3 := hb3.size; (try simp at hz3); have HB3 := Lib.hid hb3; clear hb3
  go_wp2
  go_ret2
  have hb1 := HB1.out
  have hb2 := HB2.out
  have hb3 := HB3.out
  exact ⟨rfl, by (repeat' (first | (with_reducible assumption) | (with_reducible exact Below.refl _ _) | (with_reducible refine below_drewN ?_ _) | (with_reducible refine Below.drew ?_) | (with_reducible refine Below.alloc ?_ ?_ _) | (with_reducible refine Below.setCell ?_ ?_ _) | (with_reducible refine Below.trans ?_ (Below.mono (by assumption) ?_)) | (with_reducible exact Nat.le_refl _) | (with_reducible assumption) | omega | (simp; omega) | (simp; done)))⟩
theorem spec_SquareWaysPermute_no (q a b : Int) (w : World) (hd : odp q a b = false) :
    Calls Tryz.prog 9 #[.int .i64 q, .int .i64 a, .int .i64 b] w fun e w' => e = .returned (.tuple #[.bool false, .bool false]) ∧ Below w.heap.size w w' := by
  have HO := Lib.hid (fun w => kdOdd_any q a b w)
  rw [hd] at HO
  clear hd
  go_enter Tryz.func9, Tryz.ntmps9
  go_wp2_with fail
  refine (HO.out _).mono ?_
  rintro e w1 ⟨rfl, hb1⟩
  go_wp2
  go_ret2
  exact ⟨rfl, hb1⟩
theorem impl_SquareWaysPermute_no (q a b : Int) (w : World) (hd : odp q a b = false) :
    Calls Tryz.prog 8 #[.int .i64 q, .int .i64 a, .int .i64 b] w fun e w' => e = .returned (.tuple #[.bool false, .bool false]) ∧ Below w.heap.size w w' := by
  have HO := Lib.hid (fun w => oddPairOf_no q a b w hd)
  clear hd
  go_enter Tryz.func8, Tryz.ntmps8
  go_wp2_with fail
  refine (HO.out _).mono ?_
  rintro e w1 ⟨rfl, hb1⟩
  obtain ⟨hc1, hf1⟩ := bcell hb1; have hz1 := hb1.size; (try simp at hz1); have HB1 := Lib.hid hb1; clear hb1
  go_wp2
  go_ret2
  have hb1 := HB1.out
  exact ⟨rfl, by (repeat' (first | (with_reducible assumption) | (with_reducible exact Below.refl _ _) | (with_reducible refine below_drewN ?_ _) | (with_reducible refine Below.drew ?_) | (with_reducible refine Below.alloc ?_ ?_ _) | (with_reducible refine Below.setCell ?_ ?_ _) | (with_reducible refine Below.trans ?_ (Below.mono (by assumption) ?_)) | (with_reducible exact Nat.le_refl _) | (with_reducible assumption) | omega | (simp; omega) | (simp; done)))⟩
set_option maxHeartbeats 2000000 in
theorem impl_SquareWaysPermute_yes (m : Nat) (a b : Int) (w : World) (h : isSz (m : Int) = true) (ho : (m : Int) % 2 = 1) (ha : inE (m : Int) a = true) (hb : inE (m : Int) b = true) :
    Calls Tryz.prog 8 #[.int .i64 m, .int .i64 a, .int .i64 b] w fun e w' => e = .returned (.tuple #[.bool (nsq m (mulF m a b)), .bool true]) ∧ Below w.heap.size w w' := by
  obtain ⟨_, a0, a1⟩ := inE_yes ha
  obtain ⟨_, b0, b1⟩ := inE_yes hb
  have hm := mulF_bd (m : Int) a b h a0 a1 b0 b1
  have HO := Lib.hid (fun w => oddPairOf_yes m a b w ha hb ho)
  have HT := Lib.hid (fun w => timesE (m : Int) a b w h a0 a1 b0 b1)
  have HS := Lib.hid (fun w => nonzeroSqE m (mulF m a b) w h hm.1 hm.2)
  clear h ha hb hm ho
  generalize nsq m (mulF m a b) = r at *
  generalize mulF (m : Int) a b = x at *
  go_enter Tryz.func8, Tryz.ntmps8
  go_wp2_with fail
  refine (HO.out _).mono ?_
  rintro e w1 ⟨rfl, hb1⟩
  obtain ⟨hc1, hf1⟩ := bcell hb1; have hz1 := hb1.size; (try simp at hz1); have HB1 := Lib.hid hb1; clear hb1
  go_wp2_with fail
  refine (HT.out _).mono ?_
  rintro e w2 ⟨rfl, hb2⟩
  obtain ⟨hc2, hf2⟩ := bcell hb2; have hz2 := hb2.size; (try simp at hz2); have HB2 := Lib.hid hb2; clear hb2
  go_wp2_with fail
  refine (HS.out _).mono ?_
  rintro e w3 ⟨rfl, hb3⟩
  obtain ⟨hc3, hf3⟩ := bcell hb3; have hz3 := hb3.size; (try simp at hz3); have HB3 := Lib.hid hb3; clear hb3
  go_wp2
  go_ret2
  have hb1 := HB1.out
  have hb2 := HB2.out
  have hb3 := HB3.out
  exact ⟨rfl, by (repeat' (first | (with_reducible assumption) | (with_reducible exact Below.refl _ _) | (with_reducible refine below_drewN ?_ _) | (with_reducible refine Below.drew ?_) | (with_reducible refine Below.alloc ?_ ?_ _) | (with_reducible refine Below.setCell ?_ ?_ _) | (with_reducible refine Below.trans ?_ (Below.mono (by assumption) ?_)) | (with_reducible exact Nat.le_refl _) | (with_reducible assumption) | omega | (simp; omega) | (simp; done)))⟩
theorem key_SquareWaysPermute (q a b : Int) : ∃ (r o : Bool), (∀ (w : World), Calls Tryz.prog 9 #[.int .i64 q, .int .i64 a, .int .i64 b] w fun e w' => e = .returned (.tuple #[.bool r, .bool o]) ∧ Below w.heap.size w w') ∧
      (∀ (w : World), Calls Tryz.prog 8 #[.int .i64 q, .int .i64 a, .int .i64 b] w fun e w' => e = .returned (.tuple #[.bool r, .bool o]) ∧ Below w.heap.size w w') := by
  cases h : odp q a b with
  | false => exact ⟨false, false, fun w => spec_SquareWaysPermute_no q a b w h, fun w => impl_SquareWaysPermute_no q a b w h⟩
  | true =>
    obtain ⟨m, rfl, hs, ho, ha, hb⟩ := odp_nat h
    exact ⟨_, true, fun w => spec_SquareWaysPermute_yes m a b w h hs ho ha hb, fun w => impl_SquareWaysPermute_yes m a b w hs ho ha hb⟩
end Go.Proofs.YtimpgbifnijkkabGreat
