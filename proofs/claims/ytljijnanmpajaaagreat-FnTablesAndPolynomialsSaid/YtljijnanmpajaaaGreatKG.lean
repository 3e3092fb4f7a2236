/- A bundle of texts: S T W X CA. -/
import Derived.Test.YtljijnanmpajaaaGreatKC
import Derived.Test.YtljijnanmpajaaaGreatKA
import Derived.Test.YtljijnanmpajaaaGreatKF
import Derived.Test.YtljijnanmpajaaaGreatKE
namespace Go.Proofs.YtljijnanmpajaaaGreat
open Go.RowKit
set_option maxHeartbeats 1000000 in
/-- spec.fdPower. -/
theorem fdPower_any (q a k : Int) (w : World) (h : isSz q = true) (a0 : 0 ≤ a) (a1 : a < q) (k0 : 0 ≤ k) (k1 : k ≤ 1000) :
    Calls Tryz.prog 176 #[.int .i64 q, .int .i64 a, .int .i64 k] w fun e w' => e = .returned (.int .i64 (pw q a k.toNat)) ∧ Below w.heap.size w w' := by
  have HT := Lib.hid (fun n w => fdTimes_any q (pw q a n) a w h (pw_bd q a h a0 a1 n).1 (pw_bd q a h a0 a1 n).2 a0 a1)
  obtain ⟨n, rfl⟩ := Int.eq_ofNat_of_zero_le k0
  rw [Int.toNat_natCast]
  clear h a0 a1 k0
  go_enter Tryz.func176, Tryz.ntmps176
  go_wp2
  go_loopw [2, 7] (fun vk vo wr => ∃ r : Nat, r ≤ n ∧ vk = .int .i64 r ∧ vo = .int .i64 (pw q a (n - r)) ∧ Below w.heap.size w wr) (fun vk _ _ => (intOf vk).toNat)
  case atStart => exact ⟨n, Nat.le_refl _, rfl, by rw [Nat.sub_self]; rfl, Below.refl _ _⟩
  case round =>
    obtain ⟨r, hr, rfl, rfl, hb⟩ := hrel
    have hz := hb.size
    have HB := Lib.hid hb; clear hb
    by_cases h0 : 0 < r
    · go_wp2_with fail
      refine (HT.out _ _).mono ?_
      rintro e w2 ⟨rfl, hb2⟩
      have hz_hb2 := hb2.size; (try simp at hz_hb2)
      have HB2 := Lib.hid hb2; clear hb2
      go_wp2
      go_roundw
      case rel =>
        refine ⟨r - 1, by omega, by go_num, ?_, HB.out.trans (HB2.out.mono hz)⟩
        rw [show n - (r - 1) = n - r + 1 from by omega]
        rfl
      case measure => simp [intOf]; omega
    · obtain rfl : r = 0 := by omega
      go_wp2
      go_ret
      exact ⟨rfl, HB.out⟩
theorem invF_bd (q a : Int) (h : isSz q = true) (a0 : 0 ≤ a) (a1 : a < q) : 0 ≤ invF q a ∧ invF q a < q := pw_bd q a h a0 a1 _
theorem pw_sq (q y : Int) (h : isSz q = true) (y0 : 0 ≤ y) (y1 : y < q) (m : Nat) : pw q (mulF q y y) m = pw q y (2 * m) := by
  have e : mulF q y y = pw q y 2 := by
    show _ = mulF q (mulF q 1 y) y
    rw [(mulF_one q y h y0 y1).1]
  rw [e, pw_pw q y h y0 y1]
theorem pw_odd (q x y : Int) (h : isSz q = true) (x0 : 0 ≤ x) (x1 : x < q) (y0 : 0 ≤ y) (y1 : y < q) (m : Nat) :
    mulF q (mulF q x y) (pw q (mulF q y y) m) = mulF q x (pw q y (2 * m + 1)) := by
  have hb := pw_bd q y h y0 y1 (2 * m)
  rw [pw_sq q y h y0 y1, mulF_assoc q x y _ h x0 x1 y0 y1 hb.1 hb.2]
  congr 1
  have e1 : pw q y 1 = y := (mulF_one q y h y0 y1).1
  have := pw_add q y h y0 y1 1 (2 * m)
  rw [e1] at this
  rw [this, Nat.add_comm]

/-- The memory of power between two rounds. -/
structure TP (w0 wr : World) (q y x : Int) (P : Nat) : Prop where
  he : wr.heap[w0.heap.size]? = some (eblk q y)
  hr : wr.heap[w0.heap.size + 1]? = some zeroblk
  hp : wr.heap[P]? = some (eblk q x)
  bel : Below w0.heap.size w0 wr
  lt : w0.heap.size + 1 < P
theorem TP.stepP {w0 wr w5 : World} {q y x : Int} {P : Nat} (h : TP w0 wr q y x P) (hb : Below wr.heap.size wr w5) (x' : Int) : TP w0 (put7 w5 P q x') q y x' P := by
  have hP : P < wr.heap.size := (Array.getElem?_eq_some_iff.1 h.hp).1
  have hl := h.lt
  refine ⟨?_, ?_, ?_, ?_, hl⟩
  · rw [put7_other _ _ _ _ _ (by omega), hb.block _ (by omega)]; exact h.he
  · rw [put7_other _ _ _ _ _ (by omega), hb.block _ (by omega)]; exact h.hr
  · exact put7_same _ _ _ _ _ _ _ _ _ _ _ (by rw [hb.block _ hP]; exact h.hp)
  · exact put7_below (h.bel.trans (hb.mono (by omega))) P (by omega) _ _
theorem TP.stepE {w0 wr w5 : World} {q y x : Int} {P : Nat} (h : TP w0 wr q y x P) (hb : Below wr.heap.size wr w5) (y' : Int) : TP w0 (put7 w5 w0.heap.size q y') q y' x P := by
  have hP : P < wr.heap.size := (Array.getElem?_eq_some_iff.1 h.hp).1
  have hl := h.lt
  refine ⟨?_, ?_, ?_, ?_, hl⟩
  · exact put7_same _ _ _ _ _ _ _ _ _ _ _ (by rw [hb.block _ (by omega)]; exact h.he)
  · rw [put7_other _ _ _ _ _ (by omega), hb.block _ (by omega)]; exact h.hr
  · rw [put7_other _ _ _ _ _ (by omega), hb.block _ (by omega)]; exact h.hp
  · exact put7_below (h.bel.trans (hb.mono (by omega))) _ (by omega) _ _

set_option maxHeartbeats 2000000 in
/-- impl.element.power. -/
theorem powerE (q a k : Int) (w : World) (h : isSz q = true) (a0 : 0 ≤ a) (a1 : a < q) (k0 : 0 ≤ k) (k1 : k ≤ 1000) :
    Calls Tryz.prog 134 #[elE q a, .int .i64 k] w fun e w' => e = .returned (elE q (pw q a k.toNat)) ∧ Below w.heap.size w w' := by
  have HO := Lib.hid (fun w => oneE q w h)
  have HT := Lib.hid (fun x y w x0 x1 y0 y1 => timesE q x y w h x0 x1 y0 y1)
  have HE := Lib.hid (fun y y0 y1 m => pw_sq q y h y0 y1 m)
  have HD := Lib.hid (fun x y x0 x1 y0 y1 m => pw_odd q x y h x0 x1 y0 y1 m)
  have HM := Lib.hid (fun x y x0 x1 y0 y1 => mulF_bd q x y h x0 x1 y0 y1)
  have HI := Lib.hid (fun x x0 x1 => mulF_one q x h x0 x1)
  have HW := Lib.hid (fun m => pw_bd q a h a0 a1 m)
  have hq := isSz_le q h
  obtain ⟨n0, rfl⟩ := Int.eq_ofNat_of_zero_le k0
  rw [Int.toNat_natCast]
  clear h k0
  go_enter Tryz.func134, Tryz.ntmps134
  go_wp2_with fail
  refine (HO.out _).mono ?_
  rintro e w1 ⟨rfl, hb1⟩
  have hw1 : TP w (w1.alloc (eblk q 1)) q a 1 w1.heap.size := by
    have hz := hb1.size
    simp at hz
    refine ⟨?_, ?_, heap_alloc_new w1 _, ?_, by omega⟩
    · rw [Below.heap_alloc _ _ _ (by omega), hb1.block _ (by simp; omega)]; exact (two _ _ _).1
    · rw [Below.heap_alloc _ _ _ (by omega), hb1.block _ (by simp)]; exact (two _ _ _).2
    · (repeat' (first | (with_reducible assumption) | (with_reducible exact Below.refl _ _) | (with_reducible refine below_drewN ?_ _) | (with_reducible refine Below.drew ?_) | (with_reducible refine Below.alloc ?_ ?_ _) | (with_reducible refine Below.setCell ?_ ?_ _) | (with_reducible refine Below.trans ?_ (Below.mono (by assumption) ?_)) | (with_reducible exact Nat.le_refl _) | (with_reducible assumption) | omega | (simp; omega) | (simp; done)))
  obtain ⟨hc1, hf1⟩ := bcell hb1; have hz1 := hb1.size; (try simp at hz1); have HB1 := Lib.hid hb1; clear hb1
  have HW1 := Lib.hid hw1; clear hw1
  have hn0 : n0 ≤ 1000 := by omega
  clear k1
  go_wp2_with fail
  go_loopw [1] (fun vk wr => ∃ (n : Nat) (x y : Int), n ≤ 1000 ∧ vk = .int .i64 n ∧ 0 ≤ x ∧ x < q ∧ 0 ≤ y ∧ y < q ∧ mulF q x (pw q y n) = pw q a n0 ∧ TP w wr q y x w1.heap.size) (fun vk _ => (intOf vk).toNat)
  case atStart => exact ⟨n0, 1, a, hn0, rfl, by omega, by omega, a0, a1, (HI.out _ (HW.out n0).1 (HW.out n0).2).1, HW1.out⟩
  case round =>
    obtain ⟨n, x, y, hn, rfl, x0, x1, y0, y1, hxy, ht⟩ := hrel
    have HXY := Lib.hid hxy; clear hxy
    obtain ⟨e0, e1, e2, e3, e4, e5, e6, ef, el⟩ := seven ht.he
    obtain ⟨p0, p1, p2, p3, p4, p5, p6, pf, pl'⟩ := seven ht.hp
    obtain ⟨r0, r1, r2, r3, r4, r5, r6, rf, rl⟩ := seven ht.hr
    have hlt := ht.lt
    have ne1 : ¬ w1.heap.size = w.heap.size := by omega
    have ne2 : ¬ w.heap.size = w1.heap.size := by omega
    have HTP := Lib.hid ht; clear ht
    clear hc1 hf1
    by_cases hpos : 0 < n
    · by_cases hodd : n % 2 = 1
      · have t : ((n : Int) % 2 == 1) = true := by simp; omega
        clear r0 r1 r2 r3 r4 r5 r6 rf
        go_wp2_with fail
        refine (HT.out x y _ x0 x1 y0 y1).mono ?_
        rintro e w2 ⟨rfl, hb2⟩
        obtain ⟨hc2, hf2⟩ := bcell hb2; (try simp only [World.size_drew] at hc2 hf2); have hz2 := hb2.size; (try simp at hz2); have HB2 := Lib.hid hb2; clear hb2
        have l20 : w.heap.size < w2.heap.size := by omega
        have l21 : w1.heap.size < w2.heap.size := by omega
        go_wp2_with fail
        refine (HT.out y y _ y0 y1 y0 y1).mono ?_
        rintro e w3 ⟨rfl, hb3⟩
        obtain ⟨hc3, hf3⟩ := bcell hb3; (try simp only [World.size_drew] at hc3 hf3); have hz3 := hb3.size; (try simp at hz3); have HB3 := Lib.hid hb3; clear hb3
        have l30 : w.heap.size < w3.heap.size := by omega
        have l31 : w1.heap.size < w3.heap.size := by omega
        go_wp2
        go_roundw
        case rel =>
          have hm1 := HM.out x y x0 x1 y0 y1
          have hm2 := HM.out y y y0 y1 y0 y1
          refine ⟨n / 2, mulF q x y, mulF q y y, by omega, by go_num, hm1.1, hm1.2, hm2.1, hm2.2, ?_, (HTP.out.stepP HB2.out (mulF q x y)).stepE HB3.out (mulF q y y)⟩
          rw [HD.out x y x0 x1 y0 y1, show 2 * (n / 2) + 1 = n from by omega]
          exact HXY.out
        case measure => simp [intOf]; omega
      · have t : ((n : Int) % 2 == 1) = false := by simp; omega
        clear r0 r1 r2 r3 r4 r5 r6 rf
        go_wp2_with fail
        refine (HT.out y y _ y0 y1 y0 y1).mono ?_
        rintro e w3 ⟨rfl, hb3⟩
        obtain ⟨hc3, hf3⟩ := bcell hb3; (try simp only [World.size_drew] at hc3 hf3); have hz3 := hb3.size; (try simp at hz3); have HB3 := Lib.hid hb3; clear hb3
        have l30 : w.heap.size < w3.heap.size := by omega
        have l31 : w1.heap.size < w3.heap.size := by omega
        go_wp2
        go_roundw
        case rel =>
          have hm2 := HM.out y y y0 y1 y0 y1
          refine ⟨n / 2, x, mulF q y y, by omega, by go_num, x0, x1, hm2.1, hm2.2, ?_, HTP.out.stepE HB3.out (mulF q y y)⟩
          rw [HE.out y y0 y1, show 2 * (n / 2) = n from by omega]
          exact HXY.out
        case measure => simp [intOf]; omega
    · obtain rfl : n = 0 := by omega
      have hx : x = pw q a n0 := by rw [← HXY.out]; exact (HI.out x x0 x1).2.1.symm
      subst hx
      go_wp2_with fail
      refine bodyPost_ret (v := elE q (pw q a n0)) (by simp [results, Tryz.results134, go_sem, r0, r1, r2, r3, r4, r5, r6]) rfl ⟨rfl, ?_⟩
      have hb := HTP.out.bel
      (repeat' (first | (with_reducible assumption) | (with_reducible exact Below.refl _ _) | (with_reducible refine below_drewN ?_ _) | (with_reducible refine Below.drew ?_) | (with_reducible refine Below.alloc ?_ ?_ _) | (with_reducible refine Below.setCell ?_ ?_ _) | (with_reducible refine Below.trans ?_ (Below.mono (by assumption) ?_)) | (with_reducible exact Nat.le_refl _) | (with_reducible assumption) | omega | (simp; omega) | (simp; done)))

/-- impl.element.inverse. -/
theorem inverseE (q a : Int) (w : World) (h : isSz q = true) (a0 : 0 ≤ a) (a1 : a < q) :
    Calls Tryz.prog 133 #[elE q a] w fun e w' => e = .returned (elE q (pw q a (q - 2).toNat)) ∧ Below w.heap.size w w' := by
  have hq := isSz_le q h
  have HC := Lib.hid (fun w => powerE q a (q - 2) w h a0 a1 (by omega) (by omega))
  clear h
  go_enter Tryz.func133, Tryz.ntmps133
  go_wp2_with fail
  refine (HC.out _).mono ?_
  rintro e w1 ⟨rfl, hb1⟩
  have hz_hb1 := hb1.size; (try simp at hz_hb1)
  have r : ∀ o, w1.cell? ⟨w.heap.size + 1, o, none⟩ = ((w.alloc (eblk q a)).alloc zeroblk).cell? ⟨w.heap.size + 1, o, none⟩ := fun o => Below.cell (B := w.heap.size + 2) (by (repeat' (first | (with_reducible assumption) | (with_reducible exact Below.refl _ _) | (with_reducible refine below_drewN ?_ _) | (with_reducible refine Below.drew ?_) | (with_reducible refine Below.alloc ?_ ?_ _) | (with_reducible refine Below.setCell ?_ ?_ _) | (with_reducible refine Below.trans ?_ (Below.mono (by assumption) ?_)) | (with_reducible exact Nat.le_refl _) | (with_reducible assumption) | omega | (simp; omega) | (simp; done)))) (by simp)
  obtain ⟨hc1, hf1⟩ := bcell hb1
  have HB1 := Lib.hid hb1; clear hb1
  have l1 : w.heap.size + 1 < w1.heap.size := by omega
  go_wp2_with fail
  refine bodyPost_ret (v := elE q (pw q a (q - 2).toNat)) (by simp [results, Tryz.results133, go_sem, r]) rfl ⟨rfl, ?_⟩
  have hb1 := HB1.out
  (repeat' (first | (with_reducible assumption) | (with_reducible exact Below.refl _ _) | (with_reducible refine below_drewN ?_ _) | (with_reducible refine Below.drew ?_) | (with_reducible refine Below.alloc ?_ ?_ _) | (with_reducible refine Below.setCell ?_ ?_ _) | (with_reducible refine Below.trans ?_ (Below.mono (by assumption) ?_)) | (with_reducible exact Nat.le_refl _) | (with_reducible assumption) | omega | (simp; omega) | (simp; done)))
theorem eq_arr (t : TypeId) (ht : Tryz.prog.underlying t = some (.array 4 3)) (a b c e a' b' c' e' : Int) (d : Nat) (w : World) :
    (Op.equalIn (d + 1 + 1) t (.agg #[.int .i64 a, .int .i64 b, .int .i64 c, .int .i64 e]) (.agg #[.int .i64 a', .int .i64 b', .int .i64 c', .int .i64 e'])).run Tryz.prog w = .ok (decide (a = a') && (decide (b = b') && (decide (c = c') && decide (e = e')))) w := by
  rw [Op.equalIn]
  have r4 : List.range' 0 4 = [0, 1, 2, 3] := rfl
  simp [run_underlying ht, go_sem, r4, List.forIn_cons, run_equalIn_int _ _ _ _ _ _ _ Tryz.underlying3]
  by_cases h1 : a = a' <;> by_cases h2 : b = b' <;> by_cases h3 : c = c' <;> by_cases h4 : e = e' <;> simp [h1, h2, h3, h4, go_sem]
theorem eq_arr0 (a b c e : Int) (w : World) : (Op.equalIn 10000 65 (.agg #[.int .i64 a, .int .i64 b, .int .i64 c, .int .i64 e]) (.agg #[.int .i64 0, .int .i64 0, .int .i64 0, .int .i64 0])).run Tryz.prog w = .ok (decide (a = 0) && (decide (b = 0) && (decide (c = 0) && decide (e = 0)))) w :=
  eq_arr 65 Tryz.underlying65 a b c e 0 0 0 0 9998 w
theorem eq_elem (q p k a b c e a' b' c' e' : Int) (w : World) : (Op.equalIn 10000 67 (.agg #[.int .i64 q, .int .i64 p, .int .i64 k, .int .i64 a, .int .i64 b, .int .i64 c, .int .i64 e]) (.agg #[.int .i64 q, .int .i64 p, .int .i64 k, .int .i64 a', .int .i64 b', .int .i64 c', .int .i64 e'])).run Tryz.prog w = .ok (decide (a = a') && (decide (b = b') && (decide (c = c') && decide (e = e')))) w := by
  have hE := fun w => eq_arr 65 Tryz.underlying65 a b c e a' b' c' e' 9997 w
  simp [go_sem, part, hE]
  by_cases h1 : a = a' <;> by_cases h2 : b = b' <;> by_cases h3 : c = c' <;> by_cases h4 : e = e' <;> simp [h1, h2, h3, h4]

theorem zero_dg (q a : Int) (hq : isSz q = true) (a0 : 0 ≤ a) (a1 : a < q) : (decide (dg q a 0 = 0) && (decide (dg q a 1 = 0) && (decide (dg q a 2 = 0) && decide (dg q a 3 = 0)))) = decide (a = 0) :=
  of_decide_eq_true (of_chk1 (f := fun q a => decide ((decide (dg q a 0 = 0) && (decide (dg q a 1 = 0) && (decide (dg q a 2 = 0) && decide (dg q a 3 = 0)))) = decide (a = 0))) (by decide +kernel) q a hq a0 a1)
set_option maxHeartbeats 400000 in
/-- impl.element.isZero. -/
theorem isZeroE (q a : Int) (w : World) (h : isSz q = true) (a0 : 0 ≤ a) (a1 : a < q) :
    Calls Tryz.prog 132 #[elE q a] w fun e w' => e = .returned (.bool (decide (a = 0))) ∧ Below w.heap.size w w' := by
  have hz : ∀ w, (Op.equalIn 10000 65 (.agg #[.int .i64 (dg q a 0), .int .i64 (dg q a 1), .int .i64 (dg q a 2), .int .i64 (dg q a 3)]) (.agg #[.int .i64 0, .int .i64 0, .int .i64 0, .int .i64 0])).run Tryz.prog w = .ok (decide (a = 0)) w :=
    fun w => by rw [← zero_dg q a h a0 a1]; exact eq_arr0 _ _ _ _ w
  have HZ := Lib.hid hz; clear hz
  clear h a0 a1
  go_enter Tryz.func132, Tryz.ntmps132
  go_wp2_with (simp only [HZ.out, Result.andThen_ok])
  go_ret
  exact ⟨rfl, by (repeat' (first | (with_reducible assumption) | (with_reducible exact Below.refl _ _) | (with_reducible refine below_drewN ?_ _) | (with_reducible refine Below.drew ?_) | (with_reducible refine Below.alloc ?_ ?_ _) | (with_reducible refine Below.setCell ?_ ?_ _) | (with_reducible refine Below.trans ?_ (Below.mono (by assumption) ?_)) | (with_reducible exact Nat.le_refl _) | (with_reducible assumption) | omega | (simp; omega) | (simp; done)))⟩

/-- q is a size and a an element other than 0. -/
def inN (q a : Int) : Bool := inE q a && !decide (a = 0)
theorem inN_yes {q a : Int} (h : inN q a = true) : inE q a = true ∧ isSz q = true ∧ 0 < a ∧ a < q := by
  simp only [inN, Bool.and_eq_true, Bool.not_eq_true', decide_eq_false_iff_not] at h
  obtain ⟨h1, h2, h3⟩ := inE_yes h.1
  exact ⟨h.1, h1, by omega, h3⟩
/-- The memory of order between two rounds. -/
structure TO (w0 wr : World) (q a x : Int) (O Q : Nat) : Prop where
  he : wr.heap[w0.heap.size]? = some (eblk q a)
  ho : wr.heap[O]? = some (eblk q 1)
  hq : wr.heap[Q]? = some (eblk q x)
  bel : Below w0.heap.size w0 wr
  lt : w0.heap.size < O
  lq : O < Q
theorem TO.step {w0 wr w2 : World} {q a x : Int} {O Q : Nat} (h : TO w0 wr q a x O Q) (hb : Below (wr.alloc (eblk q x)).heap.size (wr.alloc (eblk q x)) w2) (x' : Int) : TO w0 (put7 w2 wr.heap.size q x') q a x' O wr.heap.size := by
  have hQ : Q < wr.heap.size := (Array.getElem?_eq_some_iff.1 h.hq).1
  have hl := h.lt
  have hlq := h.lq
  have hs : (wr.alloc (eblk q x)).heap.size = wr.heap.size + 1 := by simp
  rw [hs] at hb
  refine ⟨?_, ?_, ?_, ?_, hl, by omega⟩
  · rw [put7_other _ _ _ _ _ (by omega), hb.block _ (by omega), Below.heap_alloc _ _ _ (by omega)]; exact h.he
  · rw [put7_other _ _ _ _ _ (by omega), hb.block _ (by omega), Below.heap_alloc _ _ _ (by omega)]; exact h.ho
  · exact put7_same _ _ _ _ _ _ _ _ _ _ _ (by rw [hb.block _ (by omega)]; exact heap_alloc_new wr _)
  · exact put7_below ((h.bel.alloc (by omega) _).trans (hb.mono (by omega))) _ (by omega) _ _

def chk0 (f : Int → Bool) : Bool := sizes.all f
theorem of_chk0 {f : Int → Bool} (h : chk0 f = true) (q : Int) (hq : isSz q = true) : f q = true := by
  have hm : q ∈ sizes := by simpa [isSz] using hq
  exact List.all_eq_true.1 h q hm
/-- The primitive elements below n. -/
def primTo (q : Int) (n : Nat) : List Int := ((List.range n).filter fun a : Nat => a != 0 && ((ordN q (a : Int) : Int) == q - 1)).map fun a : Nat => (a : Int)
theorem primTo_yes (q : Int) (n : Nat) (h0 : n ≠ 0) (h : ((ordN q (n : Int) : Int) == q - 1) = true) : primTo q (n + 1) = primTo q n ++ [(n : Int)] := by
  simp [primTo, List.range_succ, List.filter_append, h0, h]
theorem primTo_no (q : Int) (n : Nat) (h : ((ordN q (n : Int) : Int) == q - 1) = false) : primTo q (n + 1) = primTo q n := by
  simp [primTo, List.range_succ, List.filter_append, h]
theorem primTo_len (q : Int) (n : Nat) : (primTo q n).length ≤ n := by
  rw [primTo, List.length_map]
  exact Nat.le_trans (List.length_filter_le _ _) (by simp)
/-- The first primitive element. -/
def firstP (q : Int) : Int := if q = 2 then 1 else if q = 7 then 3 else if q = 9 then 4 else 2
set_option maxRecDepth 100000 in
theorem firstP_spec (q : Int) (h : isSz q = true) : (primTo q q.toNat).getD 0 0 = firstP q ∧ 0 < firstP q ∧ firstP q < q ∧ 0 < (primTo q q.toNat).length ∧ (ordN q (firstP q) : Int) = q - 1 :=
  of_decide_eq_true (of_chk0 (f := fun q => decide ((primTo q q.toNat).getD 0 0 = firstP q ∧ 0 < firstP q ∧ firstP q < q ∧ 0 < (primTo q q.toNat).length ∧ (ordN q (firstP q) : Int) = q - 1)) (by decide +kernel) q h)
set_option maxRecDepth 100000 in
theorem firstP_least (q : Int) (h : isSz q = true) (n : Nat) (h1 : 1 ≤ n) (h2 : (n : Int) < firstP q) : ((ordN q (n : Int) : Int) == q - 1) = false := by
  have hl := (firstP_spec q h).2.2.1
  have hc := of_chk1 (f := fun q a => a == 0 || decide (firstP q ≤ a) || !((ordN q a : Int) == q - 1)) (by decide +kernel) q (n : Int) h (by omega) (by omega)
  simp only [Bool.or_eq_true, beq_iff_eq, decide_eq_true_eq, Bool.not_eq_true'] at hc
  rcases hc with (hc | hc) | hc
  · omega
  · omega
  · exact hc

end Go.Proofs.YtljijnanmpajaaaGreat
