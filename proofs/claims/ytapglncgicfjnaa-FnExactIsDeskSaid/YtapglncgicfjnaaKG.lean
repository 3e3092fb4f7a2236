/- A bundle of texts: S T W X CA. -/
import Derived.Test.YtapglncgicfjnaaKC
import Derived.Test.YtapglncgicfjnaaKA
import Derived.Test.YtapglncgicfjnaaKF
import Derived.Test.YtapglncgicfjnaaKE
namespace Go.Proofs.Ytapglncgicfjnaa
open Go.RowKit
set_option maxHeartbeats 1000000 in
/-- spec.fdPower. -/
theorem fdPower_any (q a k : Int) (w : World) (h : isSz q = true) (a0 : 0 ≤ a) (a1 : a < q) (k0 : 0 ≤ k) (k1 : k ≤ 1000) :
    Calls Try.prog 79 #[.int .i64 q, .int .i64 a, .int .i64 k] w fun e w' => e = .returned (.int .i64 (pw q a k.toNat)) ∧ Below w.heap.size w w' := by
  have HT := Lib.hid (fun n w => fdTimes_any q (pw q a n) a w h (pw_bd q a h a0 a1 n).1 (pw_bd q a h a0 a1 n).2 a0 a1)
  obtain ⟨n, rfl⟩ := Int.eq_ofNat_of_zero_le k0
  rw [Int.toNat_natCast]
  clear h a0 a1 k0
  go_enter Try.func79, Try.ntmps79
  go_wp2
  go_loopw [2, 7] (fun vk vo wr => ∃ r : Nat, r ≤ n ∧ vk = .int .i64 r ∧ vo = .int .i64 (pw q a (n - r)) ∧ Below w.heap.size w wr) (fun vk _ _ => (intOf vk).toNat)
  case atStart => exact ⟨n, Nat.le_refl _, rfl, by rw [Nat.sub_self]; rfl, Below.refl _ _⟩
  case round =>
    obtain ⟨r, hr, rfl, rfl, hb⟩ := hrel
    have hz := hb.size
    have HB := Lib.hid hb; clear hb
    by_cases h0 : 0 < r
    · go_wp2_with fail
      refine (HT.out _ _).mono ?_
      rintro e w2 ⟨rfl, hb2⟩
      have hz_hb2 := hb2.size; (try simp at hz_hb2)
      have HB2 := Lib.hid hb2; clear hb2
      go_wp2
      go_roundw
      case rel =>
        refine ⟨r - 1, by omega, by go_num, ?_, HB.out.trans (HB2.out.mono hz)⟩
        rw [show n - (r - 1) = n - r + 1 from by omega]
        rfl
      case measure => simp [intOf]; omega
    · obtain rfl : r = 0 := by omega
      go_wp2
      go_ret
      exact ⟨rfl, HB.out⟩
theorem invF_bd (q a : Int) (h : isSz q = true) (a0 : 0 ≤ a) (a1 : a < q) : 0 ≤ invF q a ∧ invF q a < q := pw_bd q a h a0 a1 _
/-- spec.fdInverse. -/
theorem fdInverse_any (q a : Int) (w : World) (h : isSz q = true) (a0 : 0 ≤ a) (a1 : a < q) :
    Calls Try.prog 80 #[.int .i64 q, .int .i64 a] w fun e w' => e = .returned (.int .i64 (invF q a)) ∧ Below w.heap.size w w' := by
  have hq := isSz_le q h
  have HC := Lib.hid (fun w => fdPower_any q a (q - 2) w h a0 a1 (by omega) (by omega))
  clear h
  go_enter Try.func80, Try.ntmps80
  go_wp2_with fail
  refine (HC.out _).mono ?_
  rintro e w2 ⟨rfl, hb2⟩
  go_wp2
  go_ret
  exact ⟨rfl, by (repeat' (first | (with_reducible assumption) | (with_reducible exact Below.refl _ _) | (with_reducible refine below_drewN ?_ _) | (with_reducible refine Below.drew ?_) | (with_reducible refine Below.alloc ?_ ?_ _) | (with_reducible refine Below.setCell ?_ ?_ _) | (with_reducible refine Below.trans ?_ (Below.mono (by assumption) ?_)) | (with_reducible exact Nat.le_refl _) | (with_reducible assumption) | omega | (simp; omega) | (simp; done)))⟩

set_option maxHeartbeats 1000000 in
/-- spec.fdOrder. -/
theorem fdOrder_any (q a : Int) (w : World) (h : isSz q = true) (a0 : 0 < a) (a1 : a < q) :
    Calls Try.prog 85 #[.int .i64 q, .int .i64 a] w fun e w' => e = .returned (.int .i64 (ordN q a)) ∧ Below w.heap.size w w' := by
  have hq := isSz_le q h
  have HT := Lib.hid (fun n w => fdTimes_any q (pw q a n) a w h (pw_bd q a h (by omega) a1 n).1 (pw_bd q a h (by omega) a1 n).2 (by omega) a1)
  have HO := Lib.hid (ordN_spec q a h a0 a1)
  have HL := Lib.hid (ordN_least q a h a0 a1)
  have H1 := Lib.hid (mulF_one q a h (by omega) a1)
  clear h a0
  have hn : ordN q a ≤ 16 := by have := HO.out.2.2; omega
  generalize hne : ordN q a = n at *
  have HNE := Lib.hid hne; clear hne
  go_enter Try.func85, Try.ntmps85
  go_wp2
  go_loopw [5, 6] (fun vn vx wr => ∃ r : Nat, 1 ≤ r ∧ r ≤ n ∧ vn = .int .i64 r ∧ vx = .int .i64 (pw q a r) ∧ Below w.heap.size w wr) (fun vn _ _ => n - (intOf vn).toNat)
  case atStart => exact ⟨1, Nat.le_refl _, HO.out.2.1, rfl, by rw [show pw q a 1 = a from H1.out.1], Below.refl _ _⟩
  case round =>
    obtain ⟨r, hr1, hr, rfl, rfl, hb⟩ := hrel
    have hz := hb.size
    have HB := Lib.hid hb; clear hb
    by_cases h0 : r < n
    · have t : (pw q a r != 1) = true := by simpa using HL.out r hr1 h0
      go_wp2_with fail
      refine (HT.out _ _).mono ?_
      rintro e w2 ⟨rfl, hb2⟩
      have hz_hb2 := hb2.size; (try simp at hz_hb2)
      have HB2 := Lib.hid hb2; clear hb2
      go_wp2
      go_roundw
      case rel =>
        exact ⟨r + 1, by omega, by omega, by go_num, rfl, HB.out.trans (HB2.out.mono hz)⟩
      case measure => simp [intOf]; omega
    · obtain rfl : n = r := by omega
      have t : (pw q a n != 1) = false := by simpa using HO.out.1
      go_wp2
      go_ret
      exact ⟨rfl, HB.out⟩
theorem pw_sq (q y : Int) (h : isSz q = true) (y0 : 0 ≤ y) (y1 : y < q) (m : Nat) : pw q (mulF q y y) m = pw q y (2 * m) := by
  have e : mulF q y y = pw q y 2 := by
    show _ = mulF q (mulF q 1 y) y
    rw [(mulF_one q y h y0 y1).1]
  rw [e, pw_pw q y h y0 y1]
theorem pw_odd (q x y : Int) (h : isSz q = true) (x0 : 0 ≤ x) (x1 : x < q) (y0 : 0 ≤ y) (y1 : y < q) (m : Nat) :
    mulF q (mulF q x y) (pw q (mulF q y y) m) = mulF q x (pw q y (2 * m + 1)) := by
  have hb := pw_bd q y h y0 y1 (2 * m)
  rw [pw_sq q y h y0 y1, mulF_assoc q x y _ h x0 x1 y0 y1 hb.1 hb.2]
  congr 1
  have e1 : pw q y 1 = y := (mulF_one q y h y0 y1).1
  have := pw_add q y h y0 y1 1 (2 * m)
  rw [e1] at this
  rw [this, Nat.add_comm]

/-- The memory of power between two rounds. -/
structure TP (w0 wr : World) (q y x : Int) (P : Nat) : Prop where
  he : wr.heap[w0.heap.size]? = some (eblk q y)
  hr : wr.heap[w0.heap.size + 1]? = some zeroblk
  hp : wr.heap[P]? = some (eblk q x)
  bel : Below w0.heap.size w0 wr
  lt : w0.heap.size + 1 < P
theorem TP.stepP {w0 wr w5 : World} {q y x : Int} {P : Nat} (h : TP w0 wr q y x P) (hb : Below wr.heap.size wr w5) (x' : Int) : TP w0 (put7 w5 P q x') q y x' P := by
  have hP : P < wr.heap.size := (Array.getElem?_eq_some_iff.1 h.hp).1
  have hl := h.lt
  refine ⟨?_, ?_, ?_, ?_, hl⟩
  · rw [put7_other _ _ _ _ _ (by omega), hb.block _ (by omega)]; exact h.he
  · rw [put7_other _ _ _ _ _ (by omega), hb.block _ (by omega)]; exact h.hr
  · exact put7_same _ _ _ _ _ _ _ _ _ _ _ (by rw [hb.block _ hP]; exact h.hp)
  · exact put7_below (h.bel.trans (hb.mono (by omega))) P (by omega) _ _
theorem TP.stepE {w0 wr w5 : World} {q y x : Int} {P : Nat} (h : TP w0 wr q y x P) (hb : Below wr.heap.size wr w5) (y' : Int) : TP w0 (put7 w5 w0.heap.size q y') q y' x P := by
  have hP : P < wr.heap.size := (Array.getElem?_eq_some_iff.1 h.hp).1
  have hl := h.lt
  refine ⟨?_, ?_, ?_, ?_, hl⟩
  · exact put7_same _ _ _ _ _ _ _ _ _ _ _ (by rw [hb.block _ (by omega)]; exact h.he)
  · rw [put7_other _ _ _ _ _ (by omega), hb.block _ (by omega)]; exact h.hr
  · rw [put7_other _ _ _ _ _ (by omega), hb.block _ (by omega)]; exact h.hp
  · exact put7_below (h.bel.trans (hb.mono (by omega))) _ (by omega) _ _

set_option maxHeartbeats 2000000 in
/-- impl.element.power. -/
theorem powerE (q a k : Int) (w : World) (h : isSz q = true) (a0 : 0 ≤ a) (a1 : a < q) (k0 : 0 ≤ k) (k1 : k ≤ 1000) :
    Calls Try.prog 75 #[elE q a, .int .i64 k] w fun e w' => e = .returned (elE q (pw q a k.toNat)) ∧ Below w.heap.size w w' := by
  have HO := Lib.hid (fun w => oneE q w h)
  have HT := Lib.hid (fun x y w x0 x1 y0 y1 => timesE q x y w h x0 x1 y0 y1)
  have HE := Lib.hid (fun y y0 y1 m => pw_sq q y h y0 y1 m)
  have HD := Lib.hid (fun x y x0 x1 y0 y1 m => pw_odd q x y h x0 x1 y0 y1 m)
  have HM := Lib.hid (fun x y x0 x1 y0 y1 => mulF_bd q x y h x0 x1 y0 y1)
  have HI := Lib.hid (fun x x0 x1 => mulF_one q x h x0 x1)
  have HW := Lib.hid (fun m => pw_bd q a h a0 a1 m)
  have hq := isSz_le q h
  obtain ⟨n0, rfl⟩ := Int.eq_ofNat_of_zero_le k0
  rw [Int.toNat_natCast]
  clear h k0
  go_enter Try.func75, Try.ntmps75
  go_wp2_with fail
  refine (HO.out _).mono ?_
  rintro e w1 ⟨rfl, hb1⟩
  have hw1 : TP w (w1.alloc (eblk q 1)) q a 1 w1.heap.size := by
    have hz := hb1.size
    simp at hz
    refine ⟨?_, ?_, heap_alloc_new w1 _, ?_, by omega⟩
    · rw [Below.heap_alloc _ _ _ (by omega), hb1.block _ (by simp; omega)]; exact (two _ _ _).1
    · rw [Below.heap_alloc _ _ _ (by omega), hb1.block _ (by simp)]; exact (two _ _ _).2
    · (repeat' (first | (with_reducible assumption) | (with_reducible exact Below.refl _ _) | (with_reducible refine below_drewN ?_ _) | (with_reducible refine Below.drew ?_) | (with_reducible refine Below.alloc ?_ ?_ _) | (with_reducible refine Below.setCell ?_ ?_ _) | (with_reducible refine Below.trans ?_ (Below.mono (by assumption) ?_)) | (with_reducible exact Nat.le_refl _) | (with_reducible assumption) | omega | (simp; omega) | (simp; done)))
  obtain ⟨hc1, hf1⟩ := bcell hb1; have hz1 := hb1.size; (try simp at hz1); have HB1 := Lib.hid hb1; clear hb1
  have HW1 := Lib.hid hw1; clear hw1
  have hn0 : n0 ≤ 1000 := by omega
  clear k1
  go_wp2_with fail
  go_loopw [1] (fun vk wr => ∃ (n : Nat) (x y : Int), n ≤ 1000 ∧ vk = .int .i64 n ∧ 0 ≤ x ∧ x < q ∧ 0 ≤ y ∧ y < q ∧ mulF q x (pw q y n) = pw q a n0 ∧ TP w wr q y x w1.heap.size) (fun vk _ => (intOf vk).toNat)
  case atStart => exact ⟨n0, 1, a, hn0, rfl, by omega, by omega, a0, a1, (HI.out _ (HW.out n0).1 (HW.out n0).2).1, HW1.out⟩
  case round =>
    obtain ⟨n, x, y, hn, rfl, x0, x1, y0, y1, hxy, ht⟩ := hrel
    have HXY := Lib.hid hxy; clear hxy
    obtain ⟨e0, e1, e2, e3, e4, e5, e6, ef, el⟩ := seven ht.he
    obtain ⟨p0, p1, p2, p3, p4, p5, p6, pf, pl'⟩ := seven ht.hp
    obtain ⟨r0, r1, r2, r3, r4, r5, r6, rf, rl⟩ := seven ht.hr
    have hlt := ht.lt
    have ne1 : ¬ w1.heap.size = w.heap.size := by omega
    have ne2 : ¬ w.heap.size = w1.heap.size := by omega
    have HTP := Lib.hid ht; clear ht
    clear hc1 hf1
    by_cases hpos : 0 < n
    · by_cases hodd : n % 2 = 1
      · have t : ((n : Int) % 2 == 1) = true := by simp; omega
        clear r0 r1 r2 r3 r4 r5 r6 rf
        go_wp2_with fail
        refine (HT.out x y _ x0 x1 y0 y1).mono ?_
        rintro e w2 ⟨rfl, hb2⟩
        obtain ⟨hc2, hf2⟩ := bcell hb2; (try simp only [World.size_drew] at hc2 hf2); have hz2 := hb2.size; (try simp at hz2); have HB2 := Lib.hid hb2; clear hb2
        have l20 : w.heap.size < w2.heap.size := by omega
        have l21 : w1.heap.size < w2.heap.size := by omega
        go_wp2_with fail
        refine (HT.out y y _ y0 y1 y0 y1).mono ?_
        rintro e w3 ⟨rfl, hb3⟩
        obtain ⟨hc3, hf3⟩ := bcell hb3; (try simp only [World.size_drew] at hc3 hf3); have hz3 := hb3.size; (try simp at hz3); have HB3 := Lib.hid hb3; clear hb3
        have l30 : w.heap.size < w3.heap.size := by omega
        have l31 : w1.heap.size < w3.heap.size := by omega
        go_wp2
        go_roundw
        case rel =>
          have hm1 := HM.out x y x0 x1 y0 y1
          have hm2 := HM.out y y y0 y1 y0 y1
          refine ⟨n / 2, mulF q x y, mulF q y y, by omega, by go_num, hm1.1, hm1.2, hm2.1, hm2.2, ?_, (HTP.out.stepP HB2.out (mulF q x y)).stepE HB3.out (mulF q y y)⟩
          rw [HD.out x y x0 x1 y0 y1, show 2 * (n / 2) + 1 = n from by omega]
          exact HXY.out
        case measure => simp [intOf]; omega
      · have t : ((n : Int) % 2 == 1) = false := by simp; omega
        clear r0 r1 r2 r3 r4 r5 r6 rf
        go_wp2_with fail
        refine (HT.out y y _ y0 y1 y0 y1).mono ?_
        rintro e w3 ⟨rfl, hb3⟩
        obtain ⟨hc3, hf3⟩ := bcell hb3; (try simp only [World.size_drew] at hc3 hf3); have hz3 := hb3.size; (try simp at hz3); have HB3 := Lib.hid hb3; clear hb3
        have l30 : w.heap.size < w3.heap.size := by omega
        have l31 : w1.heap.size < w3.heap.size := by omega
        go_wp2
        go_roundw
        case rel =>
          have hm2 := HM.out y y y0 y1 y0 y1
          refine ⟨n / 2, x, mulF q y y, by omega, by go_num, x0, x1, hm2.1, hm2.2, ?_, HTP.out.stepE HB3.out (mulF q y y)⟩
          rw [HE.out y y0 y1, show 2 * (n / 2) = n from by omega]
          exact HXY.out
        case measure => simp [intOf]; omega
    · obtain rfl : n = 0 := by omega
      have hx : x = pw q a n0 := by rw [← HXY.out]; exact (HI.out x x0 x1).2.1.symm
      subst hx
      go_wp2_with fail
      refine bodyPost_ret (v := elE q (pw q a n0)) (by simp [results, Try.results75, go_sem, r0, r1, r2, r3, r4, r5, r6]) rfl ⟨rfl, ?_⟩
      have hb := HTP.out.bel
      (repeat' (first | (with_reducible assumption) | (with_reducible exact Below.refl _ _) | (with_reducible refine below_drewN ?_ _) | (with_reducible refine Below.drew ?_) | (with_reducible refine Below.alloc ?_ ?_ _) | (with_reducible refine Below.setCell ?_ ?_ _) | (with_reducible refine Below.trans ?_ (Below.mono (by assumption) ?_)) | (with_reducible exact Nat.le_refl _) | (with_reducible assumption) | omega | (simp; omega) | (simp; done)))

/-- impl.element.inverse. -/
theorem inverseE (q a : Int) (w : World) (h : isSz q = true) (a0 : 0 ≤ a) (a1 : a < q) :
    Calls Try.prog 74 #[elE q a] w fun e w' => e = .returned (elE q (pw q a (q - 2).toNat)) ∧ Below w.heap.size w w' := by
  have hq := isSz_le q h
  have HC := Lib.hid (fun w => powerE q a (q - 2) w h a0 a1 (by omega) (by omega))
  clear h
  go_enter Try.func74, Try.ntmps74
  go_wp2_with fail
  refine (HC.out _).mono ?_
  rintro e w1 ⟨rfl, hb1⟩
  have hz_hb1 := hb1.size; (try simp at hz_hb1)
  have r : ∀ o, w1.cell? ⟨w.heap.size + 1, o, none⟩ = ((w.alloc (eblk q a)).alloc zeroblk).cell? ⟨w.heap.size + 1, o, none⟩ := fun o => Below.cell (B := w.heap.size + 2) (by (repeat' (first | (with_reducible assumption) | (with_reducible exact Below.refl _ _) | (with_reducible refine below_drewN ?_ _) | (with_reducible refine Below.drew ?_) | (with_reducible refine Below.alloc ?_ ?_ _) | (with_reducible refine Below.setCell ?_ ?_ _) | (with_reducible refine Below.trans ?_ (Below.mono (by assumption) ?_)) | (with_reducible exact Nat.le_refl _) | (with_reducible assumption) | omega | (simp; omega) | (simp; done)))) (by simp)
  obtain ⟨hc1, hf1⟩ := bcell hb1
  have HB1 := Lib.hid hb1; clear hb1
  have l1 : w.heap.size + 1 < w1.heap.size := by omega
  go_wp2_with fail
  refine bodyPost_ret (v := elE q (pw q a (q - 2).toNat)) (by simp [results, Try.results74, go_sem, r]) rfl ⟨rfl, ?_⟩
  have hb1 := HB1.out
  (repeat' (first | (with_reducible assumption) | (with_reducible exact Below.refl _ _) | (with_reducible refine below_drewN ?_ _) | (with_reducible refine Below.drew ?_) | (with_reducible refine Below.alloc ?_ ?_ _) | (with_reducible refine Below.setCell ?_ ?_ _) | (with_reducible refine Below.trans ?_ (Below.mono (by assumption) ?_)) | (with_reducible exact Nat.le_refl _) | (with_reducible assumption) | omega | (simp; omega) | (simp; done)))
theorem eq_arr (t : TypeId) (ht : Try.prog.underlying t = some (.array 4 3)) (a b c e a' b' c' e' : Int) (d : Nat) (w : World) :
    (Op.equalIn (d + 1 + 1) t (.agg #[.int .i64 a, .int .i64 b, .int .i64 c, .int .i64 e]) (.agg #[.int .i64 a', .int .i64 b', .int .i64 c', .int .i64 e'])).run Try.prog w = .ok (decide (a = a') && (decide (b = b') && (decide (c = c') && decide (e = e')))) w := by
  rw [Op.equalIn]
  have r4 : List.range' 0 4 = [0, 1, 2, 3] := rfl
  simp [run_underlying ht, go_sem, r4, List.forIn_cons, run_equalIn_int _ _ _ _ _ _ _ Try.underlying3]
  by_cases h1 : a = a' <;> by_cases h2 : b = b' <;> by_cases h3 : c = c' <;> by_cases h4 : e = e' <;> simp [h1, h2, h3, h4, go_sem]
theorem eq_arr0 (a b c e : Int) (w : World) : (Op.equalIn 10000 85 (.agg #[.int .i64 a, .int .i64 b, .int .i64 c, .int .i64 e]) (.agg #[.int .i64 0, .int .i64 0, .int .i64 0, .int .i64 0])).run Try.prog w = .ok (decide (a = 0) && (decide (b = 0) && (decide (c = 0) && decide (e = 0)))) w :=
  eq_arr 85 Try.underlying85 a b c e 0 0 0 0 9998 w
theorem eq_elem (q p k a b c e a' b' c' e' : Int) (w : World) : (Op.equalIn 10000 87 (.agg #[.int .i64 q, .int .i64 p, .int .i64 k, .int .i64 a, .int .i64 b, .int .i64 c, .int .i64 e]) (.agg #[.int .i64 q, .int .i64 p, .int .i64 k, .int .i64 a', .int .i64 b', .int .i64 c', .int .i64 e'])).run Try.prog w = .ok (decide (a = a') && (decide (b = b') && (decide (c = c') && decide (e = e')))) w := by
  have hE := fun w => eq_arr 85 Try.underlying85 a b c e a' b' c' e' 9997 w
  simp [go_sem, part, hE]
  by_cases h1 : a = a' <;> by_cases h2 : b = b' <;> by_cases h3 : c = c' <;> by_cases h4 : e = e' <;> simp [h1, h2, h3, h4]

theorem zero_dg (q a : Int) (hq : isSz q = true) (a0 : 0 ≤ a) (a1 : a < q) : (decide (dg q a 0 = 0) && (decide (dg q a 1 = 0) && (decide (dg q a 2 = 0) && decide (dg q a 3 = 0)))) = decide (a = 0) :=
  of_decide_eq_true (of_chk1 (f := fun q a => decide ((decide (dg q a 0 = 0) && (decide (dg q a 1 = 0) && (decide (dg q a 2 = 0) && decide (dg q a 3 = 0)))) = decide (a = 0))) (by decide +kernel) q a hq a0 a1)
set_option maxHeartbeats 400000 in
/-- impl.element.isZero. -/
theorem isZeroE (q a : Int) (w : World) (h : isSz q = true) (a0 : 0 ≤ a) (a1 : a < q) :
    Calls Try.prog 73 #[elE q a] w fun e w' => e = .returned (.bool (decide (a = 0))) ∧ Below w.heap.size w w' := by
  have hz : ∀ w, (Op.equalIn 10000 85 (.agg #[.int .i64 (dg q a 0), .int .i64 (dg q a 1), .int .i64 (dg q a 2), .int .i64 (dg q a 3)]) (.agg #[.int .i64 0, .int .i64 0, .int .i64 0, .int .i64 0])).run Try.prog w = .ok (decide (a = 0)) w :=
    fun w => by rw [← zero_dg q a h a0 a1]; exact eq_arr0 _ _ _ _ w
  have HZ := Lib.hid hz; clear hz
  clear h a0 a1
  go_enter Try.func73, Try.ntmps73
  go_wp2_with (simp only [HZ.out, Result.andThen_ok])
  go_ret
  exact ⟨rfl, by (repeat' (first | (with_reducible assumption) | (with_reducible exact Below.refl _ _) | (with_reducible refine below_drewN ?_ _) | (with_reducible refine Below.drew ?_) | (with_reducible refine Below.alloc ?_ ?_ _) | (with_reducible refine Below.setCell ?_ ?_ _) | (with_reducible refine Below.trans ?_ (Below.mono (by assumption) ?_)) | (with_reducible exact Nat.le_refl _) | (with_reducible assumption) | omega | (simp; omega) | (simp; done)))⟩

/-- q is a size and a an element other than 0. -/
def inN (q a : Int) : Bool := inE q a && !decide (a = 0)
theorem inN_yes {q a : Int} (h : inN q a = true) : inE q a = true ∧ isSz q = true ∧ 0 < a ∧ a < q := by
  simp only [inN, Bool.and_eq_true, Bool.not_eq_true', decide_eq_false_iff_not] at h
  obtain ⟨h1, h2, h3⟩ := inE_yes h.1
  exact ⟨h.1, h1, by omega, h3⟩
set_option maxHeartbeats 1000000 in
/-- impl.nonzeroOf. -/
theorem nonzeroOf_yes (q a : Int) (w : World) (h : inN q a = true) :
    Calls Try.prog 83 #[.int .i64 q, .int .i64 a] w fun e w' => e = .returned (.tuple #[elE q a, .bool true]) ∧ Below w.heap.size w w' := by
  obtain ⟨hi, hs, a0, a1⟩ := inN_yes h
  have HE := Lib.hid (fun w => elementOf_yes q a w hi)
  have HZ := Lib.hid (fun w => isZeroE q a w hs (by omega) a1)
  have ht : decide (a = 0) = false := by simp; omega
  simp only [ht] at HZ
  clear h hi hs ht
  go_enter Try.func83, Try.ntmps83
  go_wp2_with fail
  refine (HE.out _).mono ?_
  rintro e w1 ⟨rfl, hb1⟩
  obtain ⟨hc1, hf1⟩ := bcell hb1; have hz1 := hb1.size; (try simp at hz1); have HB1 := Lib.hid hb1; clear hb1
  have hl0 : w.heap.size < w1.heap.size := by omega
  go_wp2_with fail
  refine (HZ.out _).mono ?_
  rintro e w2 ⟨rfl, hb2⟩
  obtain ⟨hc2, hf2⟩ := bcell hb2; have hz2 := hb2.size; (try simp at hz2); have HB2 := Lib.hid hb2; clear hb2
  have hl1 : w.heap.size < w2.heap.size := by omega
  have hl2 : w1.heap.size < w2.heap.size := by omega
  go_wp2_with fail
  have hb1 := HB1.out
  have hb2 := HB2.out
  have r : ∀ o, w2.cell? ⟨w.heap.size, o, none⟩ = (w.alloc zblk).cell? ⟨w.heap.size, o, none⟩ := fun o => Below.cell (B := w.heap.size + 1) (by (repeat' (first | (with_reducible assumption) | (with_reducible exact Below.refl _ _) | (with_reducible refine below_drewN ?_ _) | (with_reducible refine Below.drew ?_) | (with_reducible refine Below.alloc ?_ ?_ _) | (with_reducible refine Below.setCell ?_ ?_ _) | (with_reducible refine Below.trans ?_ (Below.mono (by assumption) ?_)) | (with_reducible exact Nat.le_refl _) | (with_reducible assumption) | omega | (simp; omega) | (simp; done)))) (by simp)
  refine bodyPost_ret (v := .tuple #[elE q a, .bool true]) (by simp [results, Try.results83, go_sem, r, zblk]) rfl ⟨rfl, ?_⟩
  (repeat' (first | (with_reducible assumption) | (with_reducible exact Below.refl _ _) | (with_reducible refine below_drewN ?_ _) | (with_reducible refine Below.drew ?_) | (with_reducible refine Below.alloc ?_ ?_ _) | (with_reducible refine Below.setCell ?_ ?_ _) | (with_reducible refine Below.trans ?_ (Below.mono (by assumption) ?_)) | (with_reducible exact Nat.le_refl _) | (with_reducible assumption) | omega | (simp; omega) | (simp; done)))
theorem nonzeroOf_no1 (q a : Int) (w : World) (h : inE q a = false) :
    Calls Try.prog 83 #[.int .i64 q, .int .i64 a] w fun e w' => e = .returned (.tuple #[elZ, .bool false]) ∧ Below w.heap.size w w' := by
  have HE := Lib.hid (fun w => elementOf_no q a w h)
  clear h
  go_enter Try.func83, Try.ntmps83
  go_wp2_with fail
  refine (HE.out _).mono ?_
  rintro e w1 ⟨rfl, hb1⟩
  obtain ⟨hc1, hf1⟩ := bcell hb1; have hz1 := hb1.size; (try simp at hz1); have HB1 := Lib.hid hb1; clear hb1
  have hl0 : w.heap.size < w1.heap.size := by omega
  go_wp2_with fail
  have hb1 := HB1.out
  have r : ∀ o, w1.cell? ⟨w.heap.size, o, none⟩ = (w.alloc zblk).cell? ⟨w.heap.size, o, none⟩ := fun o => Below.cell (B := w.heap.size + 1) (by (repeat' (first | (with_reducible assumption) | (with_reducible exact Below.refl _ _) | (with_reducible refine below_drewN ?_ _) | (with_reducible refine Below.drew ?_) | (with_reducible refine Below.alloc ?_ ?_ _) | (with_reducible refine Below.setCell ?_ ?_ _) | (with_reducible refine Below.trans ?_ (Below.mono (by assumption) ?_)) | (with_reducible exact Nat.le_refl _) | (with_reducible assumption) | omega | (simp; omega) | (simp; done)))) (by simp)
  refine bodyPost_ret (v := .tuple #[elZ, .bool false]) (by simp [results, Try.results83, go_sem, r, zblk, hl0]) rfl ⟨rfl, ?_⟩
  (repeat' (first | (with_reducible assumption) | (with_reducible exact Below.refl _ _) | (with_reducible refine below_drewN ?_ _) | (with_reducible refine Below.drew ?_) | (with_reducible refine Below.alloc ?_ ?_ _) | (with_reducible refine Below.setCell ?_ ?_ _) | (with_reducible refine Below.trans ?_ (Below.mono (by assumption) ?_)) | (with_reducible exact Nat.le_refl _) | (with_reducible assumption) | omega | (simp; omega) | (simp; done)))
set_option maxHeartbeats 1000000 in
theorem nonzeroOf_no2 (q : Int) (w : World) (h : isSz q = true) :
    Calls Try.prog 83 #[.int .i64 q, .int .i64 0] w fun e w' => e = .returned (.tuple #[elZ, .bool false]) ∧ Below w.heap.size w w' := by
  have hq := isSz_le q h
  have hi : inE q 0 = true := by simp [inE, h]; omega
  have HE := Lib.hid (fun w => elementOf_yes q 0 w hi)
  have HZ := Lib.hid (fun w => isZeroE q 0 w h (Int.le_refl _) (by omega))
  simp only [decide_true] at HZ
  clear h hi
  go_enter Try.func83, Try.ntmps83
  go_wp2_with fail
  refine (HE.out _).mono ?_
  rintro e w1 ⟨rfl, hb1⟩
  obtain ⟨hc1, hf1⟩ := bcell hb1; have hz1 := hb1.size; (try simp at hz1); have HB1 := Lib.hid hb1; clear hb1
  have hl0 : w.heap.size < w1.heap.size := by omega
  go_wp2_with fail
  refine (HZ.out _).mono ?_
  rintro e w2 ⟨rfl, hb2⟩
  obtain ⟨hc2, hf2⟩ := bcell hb2; have hz2 := hb2.size; (try simp at hz2); have HB2 := Lib.hid hb2; clear hb2
  have hl1 : w.heap.size < w2.heap.size := by omega
  have hl2 : w1.heap.size < w2.heap.size := by omega
  go_wp2_with fail
  have hb1 := HB1.out
  have hb2 := HB2.out
  have r : ∀ o, w2.cell? ⟨w.heap.size, o, none⟩ = (w.alloc zblk).cell? ⟨w.heap.size, o, none⟩ := fun o => Below.cell (B := w.heap.size + 1) (by (repeat' (first | (with_reducible assumption) | (with_reducible exact Below.refl _ _) | (with_reducible refine below_drewN ?_ _) | (with_reducible refine Below.drew ?_) | (with_reducible refine Below.alloc ?_ ?_ _) | (with_reducible refine Below.setCell ?_ ?_ _) | (with_reducible refine Below.trans ?_ (Below.mono (by assumption) ?_)) | (with_reducible exact Nat.le_refl _) | (with_reducible assumption) | omega | (simp; omega) | (simp; done)))) (by simp)
  refine bodyPost_ret (v := .tuple #[elZ, .bool false]) (by simp [results, Try.results83, go_sem, r, zblk]) rfl ⟨rfl, ?_⟩
  (repeat' (first | (with_reducible assumption) | (with_reducible exact Below.refl _ _) | (with_reducible refine below_drewN ?_ _) | (with_reducible refine Below.drew ?_) | (with_reducible refine Below.alloc ?_ ?_ _) | (with_reducible refine Below.setCell ?_ ?_ _) | (with_reducible refine Below.trans ?_ (Below.mono (by assumption) ?_)) | (with_reducible exact Nat.le_refl _) | (with_reducible assumption) | omega | (simp; omega) | (simp; done)))
/-- The memory of order between two rounds. -/
structure TO (w0 wr : World) (q a x : Int) (O Q : Nat) : Prop where
  he : wr.heap[w0.heap.size]? = some (eblk q a)
  ho : wr.heap[O]? = some (eblk q 1)
  hq : wr.heap[Q]? = some (eblk q x)
  bel : Below w0.heap.size w0 wr
  lt : w0.heap.size < O
  lq : O < Q
theorem TO.step {w0 wr w2 : World} {q a x : Int} {O Q : Nat} (h : TO w0 wr q a x O Q) (hb : Below (wr.alloc (eblk q x)).heap.size (wr.alloc (eblk q x)) w2) (x' : Int) : TO w0 (put7 w2 wr.heap.size q x') q a x' O wr.heap.size := by
  have hQ : Q < wr.heap.size := (Array.getElem?_eq_some_iff.1 h.hq).1
  have hl := h.lt
  have hlq := h.lq
  have hs : (wr.alloc (eblk q x)).heap.size = wr.heap.size + 1 := by simp
  rw [hs] at hb
  refine ⟨?_, ?_, ?_, ?_, hl, by omega⟩
  · rw [put7_other _ _ _ _ _ (by omega), hb.block _ (by omega), Below.heap_alloc _ _ _ (by omega)]; exact h.he
  · rw [put7_other _ _ _ _ _ (by omega), hb.block _ (by omega), Below.heap_alloc _ _ _ (by omega)]; exact h.ho
  · exact put7_same _ _ _ _ _ _ _ _ _ _ _ (by rw [hb.block _ (by omega)]; exact heap_alloc_new wr _)
  · exact put7_below ((h.bel.alloc (by omega) _).trans (hb.mono (by omega))) _ (by omega) _ _

set_option maxHeartbeats 2000000 in
/-- impl.element.order. -/
theorem orderE (q a : Int) (w : World) (h : isSz q = true) (a0 : 0 < a) (a1 : a < q) :
    Calls Try.prog 84 #[elE q a] w fun e w' => e = .returned (.int .i64 (ordN q a)) ∧ Below w.heap.size w w' := by
  have hq := isSz_le q h
  have HOn := Lib.hid (fun w => oneE q w h)
  have HT := Lib.hid (fun n w => timesE q (pw q a n) a w h (pw_bd q a h (by omega) a1 n).1 (pw_bd q a h (by omega) a1 n).2 (by omega) a1)
  have HO := Lib.hid (ordN_spec q a h a0 a1)
  have HL := Lib.hid (ordN_least q a h a0 a1)
  have H1 := Lib.hid (mulF_one q a h (by omega) a1)
  have heq : ∀ n w, (Op.equalIn 9999 85 (.agg #[.int .i64 (dg q (pw q a n) 0), .int .i64 (dg q (pw q a n) 1), .int .i64 (dg q (pw q a n) 2), .int .i64 (dg q (pw q a n) 3)]) (.agg #[.int .i64 (dg q 1 0), .int .i64 (dg q 1 1), .int .i64 (dg q 1 2), .int .i64 (dg q 1 3)])).run Try.prog w = .ok (decide (pw q a n = 1)) w := fun n w => by
    have hb := pw_bd q a h (by omega) a1 n
    rw [← dg_inj q (pw q a n) 1 h hb.1 hb.2 (by decide) (by omega)]
    exact eq_arr 85 Try.underlying85 _ _ _ _ _ _ _ _ 9997 w
  have HEQ := Lib.hid heq; clear heq
  clear h a0
  have hn : ordN q a ≤ 16 := by have := HO.out.2.2; omega
  generalize hne : ordN q a = n at *
  have HNE := Lib.hid hne; clear hne
  go_enter Try.func84, Try.ntmps84
  go_wp2_with fail
  refine (HOn.out _).mono ?_
  rintro e w1 ⟨rfl, hb1⟩
  have hz1 := hb1.size
  simp at hz1
  have hto : TO w ((w1.alloc (eblk q 1)).alloc (eblk q a)) q a (pw q a 1) w1.heap.size (w1.heap.size + 1) := by
    refine ⟨?_, ?_, ?_, ?_, by omega, by omega⟩
    · rw [Below.heap_alloc _ _ _ (by simp; omega), Below.heap_alloc _ _ _ (by omega), hb1.block _ (by simp), heap_alloc_new]
    · rw [Below.heap_alloc _ _ _ (by simp), heap_alloc_new]
    · rw [show w1.heap.size + 1 = (w1.alloc (eblk q 1)).heap.size from by simp, heap_alloc_new, show pw q a 1 = a from H1.out.1]
    · (repeat' (first | (with_reducible assumption) | (with_reducible exact Below.refl _ _) | (with_reducible refine below_drewN ?_ _) | (with_reducible refine Below.drew ?_) | (with_reducible refine Below.alloc ?_ ?_ _) | (with_reducible refine Below.setCell ?_ ?_ _) | (with_reducible refine Below.trans ?_ (Below.mono (by assumption) ?_)) | (with_reducible exact Nat.le_refl _) | (with_reducible assumption) | omega | (simp; omega) | (simp; done)))
  obtain ⟨hc1, hf1⟩ := bcell hb1
  clear hb1
  have HTO := Lib.hid hto; clear hto
  have hl0 : w.heap.size < w1.heap.size := by omega
  go_wp2_with fail
  go_loopw [4, 5] (fun vk vp wr => ∃ (r Q : Nat), 1 ≤ r ∧ r ≤ n ∧ vk = .int .i64 r ∧ vp = .pointer (some ⟨Q, 0, none⟩) ∧ TO w wr q a (pw q a r) w1.heap.size Q) (fun vk _ _ => n - (intOf vk).toNat)
  case atStart => exact ⟨1, w1.heap.size + 1, Nat.le_refl _, HO.out.2.1, rfl, rfl, HTO.out⟩
  case round =>
    obtain ⟨r, Q, hr1, hr, rfl, rfl, ht⟩ := hrel
    clear hc1 hf1
    have HEr := Lib.hid (HEQ.out r)
    have HTr := Lib.hid (HT.out r)
    have HS : Hid (pw q a (r + 1) = mulF q (pw q a r) a) := Lib.hid rfl
    have HLr := Lib.hid (HL.out r hr1)
    have hlq := ht.lq
    obtain ⟨e0, e1, e2, e3, e4, e5, e6, ef, el⟩ := seven ht.he
    obtain ⟨o0, o1, o2, o3, o4, o5, o6, of', ol⟩ := seven ht.ho
    obtain ⟨p0, p1, p2, p3, p4, p5, p6, pf, pl'⟩ := seven ht.hq
    have HTT := Lib.hid ht; clear ht
    by_cases h0 : r < n
    · have t : decide (pw q a r = 1) = false := by simpa using HLr.out h0
      generalize pw q a r = x at *
      go_wp2_with (simp only [HEr.out, Result.andThen_ok])
      refine (HTr.out _).mono ?_
      rintro e w2 ⟨rfl, hb2⟩
      have HST := Lib.hid (HTT.out.step hb2 (mulF q x a))
      obtain ⟨hc2, hf2⟩ := bcell hb2; (try simp only [World.size_drew] at hc2 hf2); have hz2 := hb2.size; (try simp at hz2); have HB2 := Lib.hid hb2; clear hb2
      have l2 : wr.heap.size < w2.heap.size := by omega
      go_wp2
      go_roundw
      case rel => exact ⟨r + 1, wr.heap.size, by omega, by omega, by go_num, rfl, by rw [HS.out]; exact HST.out⟩
      case measure => simp [intOf]; omega
    · obtain rfl : n = r := by omega
      have t : pw q a n = 1 := HO.out.1
      rw [t] at p3 p4 p5 p6 HEr
      go_wp2_with (simp only [HEr.out, Result.andThen_ok])
      go_ret
      exact ⟨rfl, HTT.out.bel⟩
def chk0 (f : Int → Bool) : Bool := sizes.all f
theorem of_chk0 {f : Int → Bool} (h : chk0 f = true) (q : Int) (hq : isSz q = true) : f q = true := by
  have hm : q ∈ sizes := by simpa [isSz] using hq
  exact List.all_eq_true.1 h q hm
/-- The primitive elements below n. -/
def primTo (q : Int) (n : Nat) : List Int := ((List.range n).filter fun a : Nat => a != 0 && ((ordN q (a : Int) : Int) == q - 1)).map fun a : Nat => (a : Int)
theorem primTo_yes (q : Int) (n : Nat) (h0 : n ≠ 0) (h : ((ordN q (n : Int) : Int) == q - 1) = true) : primTo q (n + 1) = primTo q n ++ [(n : Int)] := by
  simp [primTo, List.range_succ, List.filter_append, h0, h]
theorem primTo_no (q : Int) (n : Nat) (h : ((ordN q (n : Int) : Int) == q - 1) = false) : primTo q (n + 1) = primTo q n := by
  simp [primTo, List.range_succ, List.filter_append, h]
theorem primTo_len (q : Int) (n : Nat) : (primTo q n).length ≤ n := by
  rw [primTo, List.length_map]
  exact Nat.le_trans (List.length_filter_le _ _) (by simp)
/-- The first primitive element. -/
def firstP (q : Int) : Int := if q = 2 then 1 else if q = 7 then 3 else if q = 9 then 4 else 2
set_option maxRecDepth 100000 in
theorem firstP_spec (q : Int) (h : isSz q = true) : (primTo q q.toNat).getD 0 0 = firstP q ∧ 0 < firstP q ∧ firstP q < q ∧ 0 < (primTo q q.toNat).length ∧ (ordN q (firstP q) : Int) = q - 1 :=
  of_decide_eq_true (of_chk0 (f := fun q => decide ((primTo q q.toNat).getD 0 0 = firstP q ∧ 0 < firstP q ∧ firstP q < q ∧ 0 < (primTo q q.toNat).length ∧ (ordN q (firstP q) : Int) = q - 1)) (by decide +kernel) q h)
set_option maxRecDepth 100000 in
theorem firstP_least (q : Int) (h : isSz q = true) (n : Nat) (h1 : 1 ≤ n) (h2 : (n : Int) < firstP q) : ((ordN q (n : Int) : Int) == q - 1) = false := by
  have hl := (firstP_spec q h).2.2.1
  have hc := of_chk1 (f := fun q a => a == 0 || decide (firstP q ≤ a) || !((ordN q a : Int) == q - 1)) (by decide +kernel) q (n : Int) h (by omega) (by omega)
  simp only [Bool.or_eq_true, beq_iff_eq, decide_eq_true_eq, Bool.not_eq_true'] at hc
  rcases hc with (hc | hc) | hc
  · omega
  · omega
  · exact hc

set_option maxHeartbeats 1000000 in
/-- spec.fdPrimitive. -/
theorem fdPrimitive_any (q : Int) (w : World) (h : isSz q = true) :
    Calls Try.prog 95 #[.int .i64 q] w fun e w' => ∃ v, e = .returned v ∧ Row w' w.heap.size v (primTo q q.toNat) ∧ Below w.heap.size w w' := by
  obtain ⟨i0, hi, iz0, iz1, iz2⟩ := info_parts Try.infoI
  have hq := isSz_le q h
  have HC := Lib.hid (fun (n : Nat) w (h1 : 1 ≤ n) (h2 : (n : Int) < q) => fdOrder_any q (n : Int) w h (by omega) h2)
  have HB16 := Lib.hid (fun (n : Nat) (h1 : 1 ≤ n) (h2 : (n : Int) < q) => (ordN_spec q (n : Int) h (by omega) h2).2.2)
  obtain ⟨m, hm⟩ := Int.eq_ofNat_of_zero_le (show 0 ≤ q by omega)
  subst hm
  rw [Int.toNat_natCast]
  clear h
  go_enter Try.func95, Try.ntmps95
  go_wp2
  go_loopw [3, 4] (fun vo va wr => ∃ n : Nat, 1 ≤ n ∧ n ≤ m ∧ va = .int .i64 n ∧ Row wr w.heap.size vo (primTo (m : Int) n) ∧ Below w.heap.size w wr) (fun _ va _ => m - (intOf va).toNat)
  case atStart => exact ⟨1, Nat.le_refl _, by omega, rfl, Row.nil _ _, Below.refl _ _⟩
  case round =>
    obtain ⟨n, hn1, hnm, rfl, hr, hb⟩ := hrel
    have hz := hb.size
    have HR := Lib.hid hr; clear hr
    have HB := Lib.hid hb; clear hb
    have HL := Lib.hid (primTo_len (m : Int) n)
    by_cases hlt : n < m
    · have ho := HB16.out n hn1 (by omega)
      cases ht : ((ordN (m : Int) (n : Int) : Int) == (m : Int) - 1) with
      | true =>
        have HT := Lib.hid (primTo_yes (m : Int) n (by omega) ht)
        generalize hg : ordN (m : Int) (n : Int) = od at *
        go_wp2_with fail
        refine (HC.out n _ hn1 (by omega)).mono ?_
        rw [hg]
        clear hg
        rintro e w2 ⟨rfl, hb2⟩
        have hz_hb2 := hb2.size; (try simp at hz_hb2)
        have HB2 := Lib.hid hb2; clear hb2
        have HR2 := Lib.hid (HR.out.below HB2.out)
        go_wp2_with (at_builtin; refine wpList_append_own _ rfl _ _ 22 rfl w.heap.size 3 i0 (.int .i64 0) 1 8 Try.underlying22 hi iz0 iz1 iz2 rfl (by decide) _ _ _ rfl (World.ownsRow.alloc HR2.out _) ⟨w2.heap.size, 0, none⟩ 1 1 [.int .i64 n] rfl rfl ?c1 ?c2 ?c3 ?c4 ?c5 ?_)
        case c1 => exact cell_one_new _ _ _
        case c2 => intro u hu; simp at hu; subst hu; rfl
        case c3 => have := HL.out; unfold maxLen; omega
        case c4 => have := HL.out; omega
        case c5 => simp; omega
        intro v' w3 hown hgrow _
        have HR3 := Lib.hid (Row.appended hown)
        have hb : Below w.heap.size w (w2.alloc (.cells #[.int .i64 n] 3)) := by have hb1 := HB.out; have hb2 := HB2.out; (repeat' (first | (with_reducible assumption) | (with_reducible exact Below.refl _ _) | (with_reducible refine below_drewN ?_ _) | (with_reducible refine Below.drew ?_) | (with_reducible refine Below.alloc ?_ ?_ _) | (with_reducible refine Below.setCell ?_ ?_ _) | (with_reducible refine Below.trans ?_ (Below.mono (by assumption) ?_)) | (with_reducible exact Nat.le_refl _) | (with_reducible assumption) | omega | (simp; omega) | (simp; done)))
        have HB3 := Lib.hid (hb.grown hgrow (by simp; omega) (fun g hg => (HR2.out.lt g hg).1))
        clear hown hgrow hb
        go_wp2
        go_roundw
        case rel => exact ⟨n + 1, by omega, by omega, by go_num, by rw [HT.out]; exact HR3.out, HB3.out⟩
        case measure => simp [intOf]; omega
      | false =>
        have HT := Lib.hid (primTo_no (m : Int) n ht)
        generalize hg : ordN (m : Int) (n : Int) = od at *
        go_wp2_with fail
        refine (HC.out n _ hn1 (by omega)).mono ?_
        rw [hg]
        clear hg
        rintro e w2 ⟨rfl, hb2⟩
        have hz_hb2 := hb2.size; (try simp at hz_hb2)
        have HB2 := Lib.hid hb2; clear hb2
        have HR2 := Lib.hid (HR.out.below HB2.out)
        go_wp2
        go_roundw
        case rel => exact ⟨n + 1, by omega, by omega, by go_num, by rw [HT.out]; exact HR2.out, by have hb1 := HB.out; have hb2 := HB2.out; (repeat' (first | (with_reducible assumption) | (with_reducible exact Below.refl _ _) | (with_reducible refine below_drewN ?_ _) | (with_reducible refine Below.drew ?_) | (with_reducible refine Below.alloc ?_ ?_ _) | (with_reducible refine Below.setCell ?_ ?_ _) | (with_reducible refine Below.trans ?_ (Below.mono (by assumption) ?_)) | (with_reducible exact Nat.le_refl _) | (with_reducible assumption) | omega | (simp; omega) | (simp; done)))⟩
        case measure => simp [intOf]; omega
    · obtain rfl : m = n := by omega
      go_wp2
      go_ret
      exact ⟨_, rfl, HR.out, HB.out⟩

set_option maxHeartbeats 1000000 in
/-- impl.element.isPrimitive, not at 0. -/
theorem isPrimitiveE (q a : Int) (w : World) (h : isSz q = true) (a0 : 0 < a) (a1 : a < q) :
    Calls Try.prog 93 #[elE q a] w fun e w' => e = .returned (.bool ((ordN q a : Int) == q - 1)) ∧ Below w.heap.size w w' := by
  have hq := isSz_le q h
  have HZ := Lib.hid (fun w => isZeroE q a w h (by omega) a1)
  have hd : decide (a = 0) = false := by simp; omega
  simp only [hd] at HZ
  have HO := Lib.hid (fun w => orderE q a w h a0 a1)
  have HWr : Hid (IntKind.i64.wrap (q - 1) = q - 1) := Lib.hid (IntWalk.i64_in _ (by omega))
  clear hd h
  go_enter Try.func93, Try.ntmps93
  go_wp2
  go_region_with (first | (go_at_call 73; refine (HZ.out _).mono ?_; rintro e w2 ⟨rfl, hb2⟩; obtain ⟨hc2, hf2⟩ := bcell hb2; (try simp only [World.size_drew] at hc2 hf2); have hz2 := hb2.size; (try simp at hz2); have HB2 := Lib.hid hb2; clear hb2; have l2 : w.heap.size < w2.heap.size := (by omega)) | (go_at_call 84; refine (HO.out _).mono ?_; rintro e w3 ⟨rfl, hb3⟩; obtain ⟨hc3, hf3⟩ := bcell hb3; (try simp only [World.size_drew] at hc3 hf3); have hz3 := hb3.size; (try simp at hz3); have HB3 := Lib.hid hb3; clear hb3; have l3 : w.heap.size < w3.heap.size := (by omega)))
  all_goals
    go_wp2
    go_ret
    refine ⟨by simp [Act.put, HWr.out], ?_⟩
    have hb2 := HB2.out
    have hb3 := HB3.out
    (repeat' (first | (with_reducible assumption) | (with_reducible exact Below.refl _ _) | (with_reducible refine below_drewN ?_ _) | (with_reducible refine Below.drew ?_) | (with_reducible refine Below.alloc ?_ ?_ _) | (with_reducible refine Below.setCell ?_ ?_ _) | (with_reducible refine Below.trans ?_ (Below.mono (by assumption) ?_)) | (with_reducible exact Nat.le_refl _) | (with_reducible assumption) | omega | (simp; omega) | (simp; done)))
end Go.Proofs.Ytapglncgicfjnaa
