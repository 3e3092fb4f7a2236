/- A bundle of texts: HM. -/
import Derived.Test.YtljijnanmpajaaaGreatKJ
import Derived.Test.YtljijnanmpajaaaGreatKC
namespace Go.Proofs.YtljijnanmpajaaaGreat
open Go.RowKit
/-- Horner's way: the value of the k upper coefficients. -/
def hor (q x : Int) (f : Nat → Int) (n : Nat) : Nat → Int
  | 0 => 0
  | k + 1 => addF q (mulF q (hor q x f n k) x) (f (n - 1 - k))
theorem hor_el {q x : Int} {f : Nat → Int} {n : Nat} (h : isSz q = true) (hx : El q x) (hf : ∀ i, i < n → El q (f i)) (k : Nat) (hk : k ≤ n) : El q (hor q x f n k) := by
  induction k with
  | zero => exact El.zero h
  | succ k ih => exact ((ih (by omega)).mul h hx).add h (hf _ (by omega))

set_option maxHeartbeats 2000000 in
/-- spec.plAt. -/
theorem plAt_any (q x : Int) (v : Value) (f : Nat → Int) (n : Nat) (l : List Int) (w : World) (h : isSz q = true) (hx : El q x) (hv : Sl w v l) (hln : l.length = n) (hlf : ∀ i, i < n → l.getD i 0 = f i) (hf : ∀ i, i < n → El q (f i)) (hn : n ≤ 1000) :
    Calls Tryz.prog 116 #[.int .i64 q, v, .int .i64 x] w fun e w' => e = .returned (.int .i64 (hor q x f n n)) ∧ Below w.heap.size w w' := by
  have HT := Lib.hid (fun (k : Nat) (hk : k ≤ n) w => fdTimes_any q (hor q x f n k) x w h (hor_el h hx hf k hk).1 (hor_el h hx hf k hk).2 hx.1 hx.2)
  have HA := Lib.hid (fun (k : Nat) (hk : k < n) w => fdPlus_any q (mulF q (hor q x f n k) x) (f (n - 1 - k)) w h ((hor_el h hx hf k (by omega)).mul h hx).1 ((hor_el h hx hf k (by omega)).mul h hx).2 (hf _ (by omega)).1 (hf _ (by omega)).2)
  by_cases h0 : 0 < n
  · obtain ⟨b, off, cap, rfl, hb, hc⟩ := hv.open hln h0
    have HC : Hid (∀ i, i < n → w.cell? ⟨b, off + i, none⟩ = some (.int .i64 (f i))) := Lib.hid fun i hi => by rw [← hlf i hi]; exact hc i hi
    clear hv hc hlf hf hx h hln
    go_enter Tryz.func116, Tryz.ntmps116
    go_wp2_with fail
    go_loopw [7, 8] (fun vs vi wr => ∃ k : Nat, k ≤ n ∧ vi = .int .i64 ((n : Int) - 1 - (k : Int)) ∧ vs = .int .i64 (hor q x f n k) ∧ Below w.heap.size w wr) (fun _ vi _ => (intOf vi + 1).toNat)
    case atStart => exact ⟨0, Nat.zero_le _, by simp, rfl, Below.refl _ _⟩
    case round =>
      obtain ⟨k, hk, rfl, rfl, hbw⟩ := hrel
      have HS : Hid (addF q (mulF q (hor q x f n k) x) (f (n - 1 - k)) = hor q x f n (k + 1)) := Lib.hid rfl
      by_cases hlt : k < n
      · have hcl := (hbw.cell (p := ⟨b, off + (n - 1 - k), none⟩) hb).trans (HC.out (n - 1 - k) (by omega))
        have HT' := Lib.hid (HT.out k (by omega))
        have HA' := Lib.hid (HA.out k hlt)
        have hz : ((n : Int) - 1 - (k : Int)) = ((n - 1 - k : Nat) : Int) := by omega
        have HBW := Lib.hid hbw; clear hbw
        have hzz := HBW.out.size
        rw [hz]
        have hin : n - 1 - k < n := by omega
        generalize hi : n - 1 - k = i at *
        have HI := Lib.hid hi; clear hi hz
        generalize hor q x f n k = y at *
        generalize f i = u at *
        generalize mulF q y x = z at *
        have hbl : b < wr.heap.size := by omega
        go_wp2_with fail
        go_region_with (first | (go_at_call 178; refine (HT'.out _).mono ?_; rintro e w2 ⟨rfl, hb2⟩; obtain ⟨hc2, hf2⟩ := bcell hb2; (try simp only [World.size_drew] at hc2 hf2); have hz2 := hb2.size; (try simp at hz2); have HB2 := Lib.hid hb2; clear hb2) | (go_at_call 177; refine (HA'.out _).mono ?_; rintro e w3 ⟨rfl, hb3⟩; obtain ⟨hc3, hf3⟩ := bcell hb3; (try simp only [World.size_drew] at hc3 hf3); have hz3 := hb3.size; (try simp at hz3); have HB3 := Lib.hid hb3; clear hb3))
        all_goals
          go_wp2
          go_roundw
          case rel =>
            have hI := HI.out
            have hb2 := HB2.out
            have hb3 := HB3.out
            have hb1 := HBW.out
            exact ⟨k + 1, by omega, by rw [← hI]; exact congrArg (Value.int .i64) (by omega), by rw [HS.out], by (repeat' (first | (with_reducible assumption) | (with_reducible exact Below.refl _ _) | (with_reducible refine below_drewN ?_ _) | (with_reducible refine Below.drew ?_) | (with_reducible refine Below.alloc ?_ ?_ _) | (with_reducible refine Below.setCell ?_ ?_ _) | (with_reducible refine Below.trans ?_ (Below.mono (by assumption) ?_)) | (with_reducible exact Nat.le_refl _) | (with_reducible assumption) | omega | (simp; omega) | (simp; done)))⟩
          case measure => (simp [intOf]; try omega)
      · obtain rfl : n = k := by omega
        have HBW := Lib.hid hbw; clear hbw
        go_wp2
        go_ret
        exact ⟨rfl, HBW.out⟩
  · obtain rfl : n = 0 := by omega
    obtain rfl : l = [] := List.length_eq_zero_iff.1 hln
    obtain ⟨a, cap, rfl⟩ := hv.empty
    clear HT HA hv hlf hf hx h hln h0
    go_enter Tryz.func116, Tryz.ntmps116
    go_wp2_with fail
    (refine wp_loop_rounds 1 ?_; repeat any_goals (rw [rounds_succ]; go_wp2))
    go_wp2
    go_ret
    exact ⟨rfl, by (repeat' (first | (with_reducible assumption) | (with_reducible exact Below.refl _ _) | (with_reducible refine below_drewN ?_ _) | (with_reducible refine Below.drew ?_) | (with_reducible refine Below.alloc ?_ ?_ _) | (with_reducible refine Below.setCell ?_ ?_ _) | (with_reducible refine Below.trans ?_ (Below.mono (by assumption) ?_)) | (with_reducible exact Nat.le_refl _) | (with_reducible assumption) | omega | (simp; omega) | (simp; done)))⟩

/-- The memory of at between two rounds. -/
structure TA (w0 wr : World) (q x s : Int) (v : Value) (S : Nat) : Prop where
  hp : wr.heap[w0.heap.size]? = some (pblk q v)
  hx : wr.heap[w0.heap.size + 1]? = some (eblk q x)
  hr : wr.heap[w0.heap.size + 2]? = some zeroblk
  hs : wr.heap[S]? = some (eblk q s)
  bel : Below w0.heap.size w0 wr
  lt : w0.heap.size + 2 < S
theorem TA.step {w0 wr w5 : World} {q x s : Int} {v : Value} {S : Nat} (h : TA w0 wr q x s v S) (hb : Below wr.heap.size wr w5) (s' : Int) : TA w0 (put7 w5 S q s') q x s' v S := by
  have hl := h.lt
  have hS : S < wr.heap.size := (Array.getElem?_eq_some_iff.1 h.hs).1
  refine ⟨?_, ?_, ?_, ?_, ?_, hl⟩
  · rw [put7_other _ _ _ _ _ (by omega), hb.block _ (by omega)]; exact h.hp
  · rw [put7_other _ _ _ _ _ (by omega), hb.block _ (by omega)]; exact h.hx
  · rw [put7_other _ _ _ _ _ (by omega), hb.block _ (by omega)]; exact h.hr
  · exact put7_same _ _ _ _ _ _ _ _ _ _ _ (by rw [hb.block _ hS]; exact h.hs)
  · exact put7_below (h.bel.trans (hb.mono (by omega))) _ (by omega) _ _

set_option maxHeartbeats 2000000 in
/-- impl.poly.at. -/
theorem atE (q x : Int) (g cap n : Nat) (f : Nat → Int) (w : World) (h : isSz q = true) (hx : El q x) (hg : g < w.heap.size) (he : Els w g q f n) (hf : ∀ i, i < n → El q (f i)) (hn : n ≤ 1000) :
    Calls Tryz.prog 98 #[polyE q (.slice (some ⟨g, 0, none⟩) n cap), elE q x] w fun e w' => e = .returned (elE q (hor q x f n n)) ∧ Below w.heap.size w w' := by
  have HZ := Lib.hid (fun w => zeroE q w h)
  have HD := Lib.hid (fun w => degreeE q g n cap w hn)
  have HT := Lib.hid (fun (k : Nat) (hk : k ≤ n) w => timesE q (hor q x f n k) x w h (hor_el h hx hf k hk).1 (hor_el h hx hf k hk).2 hx.1 hx.2)
  have HA := Lib.hid (fun (k : Nat) (hk : k < n) w => plusE q (mulF q (hor q x f n k) x) (f (n - 1 - k)) w h ((hor_el h hx hf k (by omega)).mul h hx).1 ((hor_el h hx hf k (by omega)).mul h hx).2 (hf _ (by omega)).1 (hf _ (by omega)).2)
  have HEL := Lib.hid (fun wr (hb : Below w.heap.size w wr) => he.below hb hg)
  clear h hx hf he
  go_enter Tryz.func98, Tryz.ntmps98
  go_wp2_with fail
  refine (HZ.out _).mono ?_
  rintro e w1 ⟨rfl, hb1⟩
  have hz1 := hb1.size
  simp at hz1
  have hta : TA w (w1.alloc (eblk q 0)) q x (hor q x f n 0) (.slice (some ⟨g, 0, none⟩) n cap) w1.heap.size := by
    have hb' : Below (w.heap.size + 3) (((w.alloc (pblk q (.slice (some ⟨g, 0, none⟩) n cap))).alloc (eblk q x)).alloc zeroblk) w1 := hb1.mono (by simp)
    refine ⟨?_, ?_, ?_, heap_alloc_new _ _, ?_, by omega⟩
    · rw [Below.heap_alloc _ _ _ (by omega), hb'.block _ (by omega), Below.heap_alloc _ _ _ (by simp; omega), Below.heap_alloc _ _ _ (by simp), heap_alloc_new]
    · rw [Below.heap_alloc _ _ _ (by omega), hb'.block _ (by omega), Below.heap_alloc _ _ _ (by simp), show w.heap.size + 1 = (w.alloc (pblk q (.slice (some ⟨g, 0, none⟩) n cap))).heap.size from by simp, heap_alloc_new]
    · rw [Below.heap_alloc _ _ _ (by omega), hb'.block _ (by omega), show w.heap.size + 2 = ((w.alloc (pblk q (.slice (some ⟨g, 0, none⟩) n cap))).alloc (eblk q x)).heap.size from by simp, heap_alloc_new]
    · (repeat' (first | (with_reducible assumption) | (with_reducible exact Below.refl _ _) | (with_reducible refine below_drewN ?_ _) | (with_reducible refine Below.drew ?_) | (with_reducible refine Below.alloc ?_ ?_ _) | (with_reducible refine Below.setCell ?_ ?_ _) | (with_reducible refine Below.trans ?_ (Below.mono (by assumption) ?_)) | (with_reducible exact Nat.le_refl _) | (with_reducible assumption) | omega | (simp; omega) | (simp; done)))
  have HTA := Lib.hid hta; clear hta
  obtain ⟨hc1, hf1⟩ := bcell hb1
  have l1 : w.heap.size < w1.heap.size := by omega
  clear hb1
  go_wp2_with fail
  refine (HD.out _).mono ?_
  rintro e w2 ⟨rfl, hb2⟩
  have HTA2 : Hid (TA w w2 q x (hor q x f n 0) (.slice (some ⟨g, 0, none⟩) n cap) w1.heap.size) := Lib.hid (by
    have t := HTA.out
    have tl := t.lt
    have hz := t.bel.size
    have hbb : Below (w1.alloc (eblk q 0)).heap.size (w1.alloc (eblk q 0)) w2 := hb2
    have hs : (w1.alloc (eblk q 0)).heap.size = w1.heap.size + 1 := by simp
    rw [hs] at hbb
    exact ⟨(hbb.block _ (by omega)).trans t.hp, (hbb.block _ (by omega)).trans t.hx, (hbb.block _ (by omega)).trans t.hr, (hbb.block _ (by omega)).trans t.hs, t.bel.trans (hbb.mono (by omega)), tl⟩)
  clear hb2 hc1 hf1 l1
  generalize w1.heap.size = S at *
  go_wp2_with fail
  go_loopw [6] (fun vi wr => ∃ k : Nat, k ≤ n ∧ vi = .int .i64 ((n : Int) - 1 - (k : Int)) ∧ TA w wr q x (hor q x f n k) (.slice (some ⟨g, 0, none⟩) n cap) S) (fun vi _ => (intOf vi + 1).toNat)
  case atStart => exact ⟨0, Nat.zero_le _, by simp, HTA2.out⟩
  case round =>
    obtain ⟨k, hk, rfl, ht⟩ := hrel
    obtain ⟨p0, p1, p2, p3, pf, pl0⟩ := cells4 ht.hp
    obtain ⟨x0, x1, x2, x3, x4, x5, x6, xf, xl⟩ := seven ht.hx
    obtain ⟨s0, s1, s2, s3, s4, s5, s6, sf, sl⟩ := seven ht.hs
    obtain ⟨r0, r1, r2, r3, r4, r5, r6, rf, rl⟩ := seven ht.hr
    have hlt0 := ht.lt
    by_cases hlt : k < n
    · clear r0 r1 r2 r3 r4 r5 r6 rf
      have HS : Hid (addF q (mulF q (hor q x f n k) x) (f (n - 1 - k)) = hor q x f n (k + 1)) := Lib.hid rfl
      have hin : n - 1 - k < n := by omega
      obtain ⟨c0, c1, c2, c3, c4, c5, c6⟩ := (HEL.out _ ht.bel) (n - 1 - k) hin
      have hgl : g < wr.heap.size := by have := ht.bel.size; omega
      have HT' := Lib.hid (HT.out k (by omega))
      have HA' := Lib.hid (HA.out k hlt)
      have hz : ((n : Int) - 1 - (k : Int)) = ((n - 1 - k : Nat) : Int) := by omega
      have HTT := Lib.hid ht; clear ht
      rw [hz]
      generalize hi : n - 1 - k = i at *
      have HI := Lib.hid hi; clear hi hz
      generalize hor q x f n k = y at *
      generalize f i = u at *
      generalize mulF q y x = z at *
      go_wp2_with fail
      go_region_with (first | (go_at_call 170; refine (HT'.out _).mono ?_; rintro e w3 ⟨rfl, hb3⟩; obtain ⟨hc3, hf3⟩ := bcell hb3; (try simp only [World.size_drew] at hc3 hf3); have hz3 := hb3.size; (try simp at hz3); have HB3 := Lib.hid hb3; clear hb3; have l3 : S < w3.heap.size := (by omega)) | (go_at_call 174; refine (HA'.out _).mono ?_; rintro e w4 ⟨rfl, hb4⟩; obtain ⟨hc4, hf4⟩ := bcell hb4; (try simp only [World.size_drew] at hc4 hf4); have hz4 := hb4.size; (try simp at hz4); have HB4 := Lib.hid hb4; clear hb4; have l4 : S < w4.heap.size := (by omega)))
      all_goals
        go_wp2
        go_roundw
        case rel =>
          have hI := HI.out
          have hb3 := HB3.out
          have hb4 := HB4.out
          refine ⟨k + 1, by omega, by rw [← hI]; exact congrArg (Value.int .i64) (by omega), ?_⟩
          rw [← HS.out]
          exact HTT.out.step (w5 := w4) (by (repeat' (first | (with_reducible assumption) | (with_reducible exact Below.refl _ _) | (with_reducible refine below_drewN ?_ _) | (with_reducible refine Below.drew ?_) | (with_reducible refine Below.alloc ?_ ?_ _) | (with_reducible refine Below.setCell ?_ ?_ _) | (with_reducible refine Below.trans ?_ (Below.mono (by assumption) ?_)) | (with_reducible exact Nat.le_refl _) | (with_reducible assumption) | omega | (simp; omega) | (simp; done)))) (addF q z u)
        case measure => (simp [intOf]; try omega)
    · obtain rfl : n = k := by omega
      have hb := ht.bel
      have HTT := Lib.hid ht; clear ht
      go_wp2_with fail
      refine bodyPost_ret (v := elE q (hor q x f n n)) (by simp [results, Tryz.results98, go_sem, r0, r1, r2, r3, r4, r5, r6]) rfl ⟨rfl, ?_⟩
      (repeat' (first | (with_reducible assumption) | (with_reducible exact Below.refl _ _) | (with_reducible refine below_drewN ?_ _) | (with_reducible refine Below.drew ?_) | (with_reducible refine Below.alloc ?_ ?_ _) | (with_reducible refine Below.setCell ?_ ?_ _) | (with_reducible refine Below.trans ?_ (Below.mono (by assumption) ?_)) | (with_reducible exact Nat.le_refl _) | (with_reducible assumption) | omega | (simp; omega) | (simp; done)))
end Go.Proofs.YtljijnanmpajaaaGreat
