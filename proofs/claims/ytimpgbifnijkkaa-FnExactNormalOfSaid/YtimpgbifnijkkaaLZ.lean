/- impl.element.scaled beyond the prime; impl.poly.normal; NormalOf of the program. -/
import Derived.Test.YtimpgbifnijkkaaLX
import Derived.Test.YtimpgbifnijkkaaKQ
import Derived.Test.YtimpgbifnijkkaaLD
import Derived.Test.YtimpgbifnijkkaaTM
import Derived.Test.YtimpgbifnijkkaaVP
import Derived.Deep.RegionHeld3
namespace Go.Proofs.Ytimpgbifnijkkaa
open Go.RowKit
set_option maxHeartbeats 1000000 in
/-- impl.element.scaled. -/
theorem scaled_far (q p d0 d1 d2 d3 c : Int) (k : Nat) (w : World) (k1 : 1 ≤ k) (k4 : k ≤ 4) (p2 : 2 ≤ p) (p13 : p ≤ 13) (s0 : 0 ≤ c) (s1 : c ≤ 16)
    (a0 : 0 ≤ d0) (a1 : d0 < p) (b0 : 0 ≤ d1) (b1 : d1 < p) (c0 : 0 ≤ d2) (c1 : d2 < p) (f0 : 0 ≤ d3) (f1 : d3 < p) :
    Calls Try.prog 110 #[elD q p k d0 d1 d2 d3, .int .i64 c] w fun e w' =>
      e = .returned (elD q p k (c * d0 % p) (if k < 2 then d1 else c * d1 % p) (if k < 3 then d2 else c * d2 % p) (if k < 4 then d3 else c * d3 % p)) ∧ Below w.heap.size w w' := by
  have hk : k = 1 ∨ k = 2 ∨ k = 3 ∨ k = 4 := by omega
  clear k1 k4
  have m0 : 0 ≤ c * d0 := Int.mul_nonneg s0 a0
  have m0' : c * d0 ≤ 16 * 13 := Int.mul_le_mul (by omega) (by omega) a0 (by omega)
  have m1 : 0 ≤ c * d1 := Int.mul_nonneg s0 b0
  have m1' : c * d1 ≤ 16 * 13 := Int.mul_le_mul (by omega) (by omega) b0 (by omega)
  have m2 : 0 ≤ c * d2 := Int.mul_nonneg s0 c0
  have m2' : c * d2 ≤ 16 * 13 := Int.mul_le_mul (by omega) (by omega) c0 (by omega)
  have m3 : 0 ≤ c * d3 := Int.mul_nonneg s0 f0
  have m3' : c * d3 ≤ 16 * 13 := Int.mul_le_mul (by omega) (by omega) f0 (by omega)
  rcases hk with rfl | rfl | rfl | rfl
  · go_enter Try.func110, Try.ntmps110
    go_wp2
    refine wp_loop_rounds 5 ?_
    iterate 1
      rw [rounds_succ]
      go_wp2
      go_region
      go_wp2
    rw [rounds_succ]
    go_wp2
    (refine bodyPost_ret (by simp [results, Try.results110, go_sem]; try rfl) rfl ?_)
    exact ⟨rfl, by (repeat' (first | (with_reducible assumption) | (with_reducible exact Below.refl _ _) | (with_reducible refine below_drewN ?_ _) | (with_reducible refine Below.drew ?_) | (with_reducible refine Below.alloc ?_ ?_ _) | (with_reducible refine Below.setCell ?_ ?_ _) | (with_reducible refine Below.trans ?_ (Below.mono (by assumption) ?_)) | (with_reducible exact Nat.le_refl _) | (with_reducible assumption) | omega | (simp; omega) | (simp; done)))⟩
  · go_enter Try.func110, Try.ntmps110
    go_wp2
    refine wp_loop_rounds 5 ?_
    iterate 2
      rw [rounds_succ]
      go_wp2
      go_region
      go_wp2
    rw [rounds_succ]
    go_wp2
    (refine bodyPost_ret (by simp [results, Try.results110, go_sem]; try rfl) rfl ?_)
    exact ⟨rfl, by (repeat' (first | (with_reducible assumption) | (with_reducible exact Below.refl _ _) | (with_reducible refine below_drewN ?_ _) | (with_reducible refine Below.drew ?_) | (with_reducible refine Below.alloc ?_ ?_ _) | (with_reducible refine Below.setCell ?_ ?_ _) | (with_reducible refine Below.trans ?_ (Below.mono (by assumption) ?_)) | (with_reducible exact Nat.le_refl _) | (with_reducible assumption) | omega | (simp; omega) | (simp; done)))⟩
  · go_enter Try.func110, Try.ntmps110
    go_wp2
    refine wp_loop_rounds 5 ?_
    iterate 3
      rw [rounds_succ]
      go_wp2
      go_region
      go_wp2
    rw [rounds_succ]
    go_wp2
    (refine bodyPost_ret (by simp [results, Try.results110, go_sem]; try rfl) rfl ?_)
    exact ⟨rfl, by (repeat' (first | (with_reducible assumption) | (with_reducible exact Below.refl _ _) | (with_reducible refine below_drewN ?_ _) | (with_reducible refine Below.drew ?_) | (with_reducible refine Below.alloc ?_ ?_ _) | (with_reducible refine Below.setCell ?_ ?_ _) | (with_reducible refine Below.trans ?_ (Below.mono (by assumption) ?_)) | (with_reducible exact Nat.le_refl _) | (with_reducible assumption) | omega | (simp; omega) | (simp; done)))⟩
  · go_enter Try.func110, Try.ntmps110
    go_wp2
    refine wp_loop_rounds 5 ?_
    iterate 4
      rw [rounds_succ]
      go_wp2
      go_region
      go_wp2
    rw [rounds_succ]
    go_wp2
    (refine bodyPost_ret (by simp [results, Try.results110, go_sem]; try rfl) rfl ?_)
    exact ⟨rfl, by (repeat' (first | (with_reducible assumption) | (with_reducible exact Below.refl _ _) | (with_reducible refine below_drewN ?_ _) | (with_reducible refine Below.drew ?_) | (with_reducible refine Below.alloc ?_ ?_ _) | (with_reducible refine Below.setCell ?_ ?_ _) | (with_reducible refine Below.trans ?_ (Below.mono (by assumption) ?_)) | (with_reducible exact Nat.le_refl _) | (with_reducible assumption) | omega | (simp; omega) | (simp; done)))⟩
theorem scl_elE {q : Int} (h : isSz q = true) (d : Nat) (hd : d ≤ 16) : elE q (mny q d) = elD q (pr q) (plN q : Nat) ((d : Int) * dg q 1 0 % pr q) (if plN q < 2 then dg q 1 1 else (d : Int) * dg q 1 1 % pr q) (if plN q < 3 then dg q 1 2 else (d : Int) * dg q 1 2 % pr q) (if plN q < 4 then dg q 1 3 else (d : Int) * dg q 1 3 % pr q) := by
  have hk : ∀ q ∈ sizes, ∀ d ∈ List.range 17, dg q (mny q d) 0 = (d : Int) * dg q 1 0 % pr q ∧ dg q (mny q d) 1 = (if plN q < 2 then dg q 1 1 else (d : Int) * dg q 1 1 % pr q) ∧ dg q (mny q d) 2 = (if plN q < 3 then dg q 1 2 else (d : Int) * dg q 1 2 % pr q) ∧ dg q (mny q d) 3 = (if plN q < 4 then dg q 1 3 else (d : Int) * dg q 1 3 % pr q) := by decide +kernel
  obtain ⟨h0, h1, h2, h3⟩ := hk q (by simpa [isSz] using h) d (List.mem_range.2 (by omega))
  rw [← h0, ← h1, ← h2, ← h3]
  rfl
/-- one, d times. -/
theorem sclE (q : Int) (d : Nat) (w : World) (h : isSz q = true) (hd : d ≤ 16) :
    Calls Try.prog 110 #[elE q 1, .int .i64 d] w fun e w' => e = .returned (elE q (mny q d)) ∧ Below w.heap.size w w' := by
  rw [scl_elE h d hd]
  have hp := pr_bd q h
  have hk := plN_bd q h
  have b := fun i => dg_bd q 1 i h
  have := scaled_far q (pr q) (dg q 1 0) (dg q 1 1) (dg q 1 2) (dg q 1 3) (d : Int) (plN q) w hk.1 hk.2 hp.1 hp.2 (by omega) (by omega) (b 0).1 (b 0).2 (b 1).1 (b 1).2 (b 2).1 (b 2).2 (b 3).1 (b 3).2
  exact this
theorem put4_heap {w : World} {b : Nat} {x0 x1 x2 x3 : Value} (q : Int) (v : Value) (h : w.heap[b]? = some (.cells #[x0, x1, x2, x3] 49 (0, 0))) : (put4 w b q v).heap[b]? = some (pblk q v) := by
  unfold put4
  have e0 := heap_setCell_same w b 0 _ _ (.int .i64 q) h
  have e1 := heap_setCell_same _ b 1 _ _ (.int .i64 (pr q)) e0
  have e2 := heap_setCell_same _ b 2 _ _ (.int .i64 (pl q)) e1
  have e3 := heap_setCell_same _ b 3 _ _ v e2
  exact e3
theorem Els.overP {w w' : World} {g R K : Nat} {q : Int} {f : Nat → Int} {a : Option Addr} {n c : Nat} (he : Els w g q f K) (hR : w.heap[R]? = some (pblk q (.slice a n c))) (hw : ∀ k, k ≠ R → w'.heap[k]? = w.heap[k]?) : Els w' g q f K := by
  by_cases h0 : K = 0
  · subst h0
    exact fun j hj => by omega
  · refine he.same (hw g fun e => ?_)
    subst e
    have h1 := (he 0 (by omega)).2.2.2.1
    rw [Nat.zero_mul, Nat.zero_add, (cells4 hR).2.2.2.1] at h1
    simp at h1
/-- The memory of normal. -/
structure NM (w0 wr : World) (m : Nat) (c : Nat → Int) (k g cap : Nat) : Prop where
  hp : wr.heap[w0.heap.size]? = some (pblk (m : Int) (.slice (some ⟨g, 0, none⟩) k cap))
  hr : wr.heap[w0.heap.size + 1]? = some pzblk
  he : Els wr g (m : Int) c k
  lt : g < wr.heap.size
  bel : Below w0.heap.size w0 wr
theorem NM.below {w0 wr w' : World} {m k g cap B : Nat} {c : Nat → Int} (h : NM w0 wr m c k g cap) (hb : Below B wr w') (hB : wr.heap.size ≤ B) : NM w0 w' m c k g cap := by
  have hg := h.lt
  have hs := h.bel.size
  have h1 := (cells4 h.hr).2.2.2.2.2
  have hz := hb.size
  exact ⟨(hb.block _ (by omega)).trans h.hp, (hb.block _ (by omega)).trans h.hr, h.he.below hb (by omega), by omega, h.bel.trans (hb.mono (by omega))⟩
theorem NM.store {w0 wr w' : World} {m k g cap k' g' cap' B : Nat} {c c' : Nat → Int} (h : NM w0 wr m c k g cap) (hb : Below B wr w') (hB : wr.heap.size ≤ B) (hg' : g' < w'.heap.size) (he' : Els w' g' (m : Int) c' k') : NM w0 (put4 w' w0.heap.size (m : Int) (.slice (some ⟨g', 0, none⟩) k' cap')) m c' k' g' cap' := by
  have h2 := h.below hb hB
  exact ⟨put4_heap _ _ h2.hp, (put4_other _ _ _ _ _ (by omega)).trans h2.hr, he'.overP h2.hp (fun k hk => put4_other _ _ _ _ _ hk), by simpa using hg', put4_below h2.bel _ (Nat.le_refl _) _ _⟩
theorem NM.same {w0 wr w' : World} {m k g cap : Nat} {c : Nat → Int} (h : NM w0 wr m c k g cap) (e : w' = wr.drew) : NM w0 w' m c k g cap := by
  subst e
  exact ⟨h.hp, h.hr, h.he, h.lt, h.bel.drew⟩
theorem region_cut {P : Program} {c : Code} {Q : Exit → Act → World → Prop} {a : Act} {w : World} (R : Act → Act → World → Prop) (h0 : ∀ K : Act → World → Prop, (∀ a' w', R a a' w' → K a' w') → c.wp P (Exit.then K Q) a w) (h : ∀ a' w', R a a' w' → Q .normal a' w') : c.wp P Q a w :=
  Code.wp_mono (fun e a' w' hr => by
    cases e with
    | normal => exact h a' w' hr
    | _ => exact hr) (h0 (fun a' w' => R a a' w') fun _ _ h => h)
theorem nm_ne {w0 wr : World} {m k g cap : Nat} {c : Nat → Int} (h : NM w0 wr m c k g cap) (hk : 0 < k) : g ≠ w0.heap.size := fun e => by
  have h1 := (h.he 0 hk).2.2.2.1
  have h2 := (cells4 h.hp).2.2.2.1
  rw [Nat.zero_mul, Nat.zero_add, e, h2] at h1
  simp at h1
set_option maxHeartbeats 8000000 in
set_option maxRecDepth 100000 in
/-- impl.poly.normal, without a shift. -/
theorem normE0 (m n g cap : Nat) (f : Nat → Int) (w : World) (h : isSz (m : Int) = true) (hg : g < w.heap.size) (he : Els w g (m : Int) f n) (L : Lead m f n) (hd : ((n - 1 : Nat) : Int) % pr m = 0) :
    Calls Try.prog 65 #[polyE (m : Int) (.slice (some ⟨g, 0, none⟩) n cap)] w fun e w' => ∃ g' k cap' f', e = .returned (polyE (m : Int) (.slice (some ⟨g', 0, none⟩) k cap')) ∧ g' < w'.heap.size ∧ Els w' g' (m : Int) f' k ∧ (∀ i, El (m : Int) (f' i)) ∧ k ≤ m ∧ fl f' k = nml m n f ∧ Below w.heap.size w w' := by
  have hq := isSz_le (m : Int) h
  have hpr := pr_bd (m : Int) h
  have h2 := L.two
  have hle := L.le
  have HDEG := Lib.hid (fun w => degreeE (m : Int) g n cap w (by omega))
  obtain ⟨hL, _, _⟩ := scale_lead h L
  have hSC : ∀ w', Els w' g (m : Int) f n → g < w'.heap.size → Calls Try.prog 108 #[polyE (m : Int) (.slice (some ⟨g, 0, none⟩) n cap)] w' fun e w'' => ∃ g' cap', e = .returned (polyE (m : Int) (.slice (some ⟨g', 0, none⟩) n cap')) ∧ g' < w''.heap.size ∧ Els w'' g' (m : Int) (mon1 m n f) n ∧ Below w'.heap.size w' w'' := fun w' he hg =>
    (monicE m n g cap f w' h hg he L.el (by omega) hle L.top).mono fun _ _ ⟨g', c', h1, _, h2, h3, h4⟩ => ⟨g', c', h1, h2, h3, h4⟩
  have HSC := Lib.hid hSC; clear hSC
  have hnm : nml m n f = fl (upd (nmlS m n (mon1 m n f)).1 0 0) (nmlS m n (mon1 m n f)).2 := rfl
  change Lead m (mon1 m n f) n at hL
  rw [hnm]
  generalize mon1 m n f = G at *
  have hLS := nmlS_lead h hL
  clear hnm
  have hdne : ((((n - 1 : Nat) : Int) % pr (m : Int)) != 0) = false := by simpa using hd
  have hSS : nmlS m n G = (G, n) := by unfold nmlS; rw [if_pos hd]
  generalize nmlS m n G = S at *
  have HNEG := Lib.hid (fun w => negE (m : Int) (S.1 0) w h (hLS.el _).1 (hLS.el _).2)
  have HPE := Lib.hid (fun v1 w' (h1 : Se w' v1 (m : Int) S.1 S.2) => plusElementE m S.2 (subF m 0 (S.1 0)) v1 S.1 w' h h1 hLS.el hLS.le hLS.past ((hLS.el 0).neg h))
  have HN0 := Lib.hid (nrm0 h hLS)
  have HRE : Hid (∀ i, El (m : Int) (redR m (pls m S.1 (redR m (fun _ => subF m 0 (S.1 0)) 1)) m i)) := Lib.hid fun i => redR_el m _ h (fun i => pls_el h hLS.el (fun i => redR_el m _ h (fun _ => (hLS.el 0).neg h) _ _) i) _ _
  have HRN : Hid (redn m (pls m S.1 (redR m (fun _ => subF m 0 (S.1 0)) 1)) m ≤ m) := Lib.hid (sn_le _ _)
  have hS2 := hLS.two
  have hSl := hLS.le
  generalize redR m (pls m S.1 (redR m (fun _ => subF m 0 (S.1 0)) 1)) m = RR at *
  generalize redn m (pls m S.1 (redR m (fun _ => subF m 0 (S.1 0)) 1)) m = RK at *
  generalize subF m 0 (S.1 0) = cc at *
  subst hSS
  simp only at *
  have hz1 : ((n : Int) - 1) = ((n - 1 : Nat) : Int) := by omega
  clear hL hLS h L
  have HE := Lib.hid he; clear he
  go_enter Try.func65, Try.ntmps65
  go_wp2_with fail
  refine (HDEG.out _).mono ?_
  rintro e w1 ⟨rfl, hb1⟩
  have hnm1 : NM w w1 m f n g cap := by
    obtain ⟨t0, t1⟩ := two w (pblk (m : Int) (.slice (some ⟨g, 0, none⟩) n cap)) pzblk
    have hb' : Below (w.heap.size + 2) ((w.alloc (pblk (m : Int) (.slice (some ⟨g, 0, none⟩) n cap))).alloc pzblk) w1 := hb1.mono (by simp)
    have hz := hb'.size
    simp at hz
    exact ⟨(hb'.block _ (by omega)).trans t0, (hb'.block _ (by omega)).trans t1, HE.out.below (B := w.heap.size) (by (repeat' (first | (with_reducible assumption) | (with_reducible exact Below.refl _ _) | (with_reducible refine below_drewN ?_ _) | (with_reducible refine Below.drew ?_) | (with_reducible refine Below.alloc ?_ ?_ _) | (with_reducible refine Below.setCell ?_ ?_ _) | (with_reducible refine Below.trans ?_ (Below.mono (by assumption) ?_)) | (with_reducible exact Nat.le_refl _) | (with_reducible assumption) | omega | (simp; omega) | (simp; done)))) hg, by omega, by (repeat' (first | (with_reducible assumption) | (with_reducible exact Below.refl _ _) | (with_reducible refine below_drewN ?_ _) | (with_reducible refine Below.drew ?_) | (with_reducible refine Below.alloc ?_ ?_ _) | (with_reducible refine Below.setCell ?_ ?_ _) | (with_reducible refine Below.trans ?_ (Below.mono (by assumption) ?_)) | (with_reducible exact Nat.le_refl _) | (with_reducible assumption) | omega | (simp; omega) | (simp; done)))⟩
  have HN1 := Lib.hid hnm1
  obtain ⟨p0, p1, p2, p3, pf, pl0⟩ := cells4 hnm1.hp
  have hzw1 := hnm1.bel.size
  clear hb1 hnm1
  rw [hz1]
  go_wp2_with fail
  refine (HSC.out _ HN1.out.he HN1.out.lt).mono ?_
  rintro e w3 ⟨g3, cp3, rfl, hg3, he3, hb3⟩
  have hN3 : NM w ((((w3.setCell ⟨w.heap.size, 0, none⟩ (.int .i64 m)).setCell ⟨w.heap.size, 1, none⟩ (.int .i64 (pr m))).setCell ⟨w.heap.size, 2, none⟩ (.int .i64 (pl m))).setCell ⟨w.heap.size, 3, none⟩ (.slice (some ⟨g3, 0, none⟩) n cp3)) m G n g3 cp3 := HN1.out.store hb3 (Nat.le_refl _) hg3 he3
  obtain ⟨q0, q1, q2, q3, qf, ql0⟩ := cells4 (HN1.out.below hb3 (Nat.le_refl _)).hp
  have hgne : g3 ≠ w.heap.size := nm_ne hN3 (by omega)
  have hy := he3 0 (by omega)
  simp only [Nat.zero_mul, Nat.zero_add] at hy
  obtain ⟨y0, y1, y2, y3, y4, y5, y6⟩ := hy
  have hz3 := hb3.size
  have HNS := Lib.hid hN3
  clear hN3 he3 hb3 p0 p1 p2 p3 pf
  go_wp2_with fail
  obtain ⟨W3, hW⟩ : ∃ W, W = ((((w3.setCell ⟨w.heap.size, 0, none⟩ (.int .i64 m)).setCell ⟨w.heap.size, 1, none⟩ (.int .i64 (pr m))).setCell ⟨w.heap.size, 2, none⟩ (.int .i64 (pl m))).setCell ⟨w.heap.size, 3, none⟩ (.slice (some ⟨g3, 0, none⟩) n cp3)) := ⟨_, rfl⟩
  have hN3 : NM w W3 m G n g3 cp3 := by rw [hW]; exact HNS.out
  rw [← hW]
  clear hW q0 q1 q2 q3 qf ql0 hgne y0 y1 y2 y3 y4 y5 y6 hg3 hz3 HNS
  have hNW : NM w W3 m G n g3 cp3 := hN3
  clear hN3
  have hzW := hNW.bel.size
  have hgW := hNW.lt
  have HNW := Lib.hid hNW
  clear hNW
  have hn0 : (0 : Int) < (n : Int) := by omega
  have hn1 : 0 < n := by omega
  have hrl : w.heap.size + 1 < W3.heap.size := (Array.getElem?_eq_some_iff.1 HNW.out.hr).1
  have HKEEP : Hid (∀ w', Below W3.heap.size W3 w' → w'.cell? ⟨w.heap.size, 0, none⟩ = some (.int .i64 m) ∧ w'.cell? ⟨w.heap.size, 1, none⟩ = some (.int .i64 (pr m)) ∧ w'.cell? ⟨w.heap.size, 2, none⟩ = some (.int .i64 (pl m)) ∧ w'.cell? ⟨w.heap.size, 3, none⟩ = some (.slice (some ⟨g3, 0, none⟩) n cp3) ∧ w'.cell? ⟨g3, 0, none⟩ = some (.int .i64 m) ∧ w'.cell? ⟨g3, 1, none⟩ = some (.int .i64 (pr m)) ∧ w'.cell? ⟨g3, 2, none⟩ = some (.int .i64 (pl m)) ∧ w'.cell? ⟨g3, 3, none⟩ = some (.int .i64 (dg m (G 0) 0)) ∧ w'.cell? ⟨g3, 4, none⟩ = some (.int .i64 (dg m (G 0) 1)) ∧ w'.cell? ⟨g3, 5, none⟩ = some (.int .i64 (dg m (G 0) 2)) ∧ w'.cell? ⟨g3, 6, none⟩ = some (.int .i64 (dg m (G 0) 3))) := Lib.hid fun w' hb => by
    have hN := HNW.out.below hb (Nat.le_refl _)
    obtain ⟨x0, x1, x2, x3, _⟩ := cells4 hN.hp
    have hy := hN.he 0 (by omega)
    simp only [Nat.zero_mul, Nat.zero_add] at hy
    obtain ⟨y0, y1, y2, y3, y4, y5, y6⟩ := hy
    exact ⟨x0, x1, x2, x3, y0, y1, y2, y3, y4, y5, y6⟩
  obtain ⟨q0, q1, q2, q3, qf, ql⟩ := cells4 HNW.out.hr
  have hgr : g3 ≠ w.heap.size + 1 := fun e => by
    have h1 := (HNW.out.he 0 (by omega)).2.2.2.1
    simp only [Nat.zero_mul, Nat.zero_add] at h1
    rw [e, (cells4 HNW.out.hr).2.2.2.1] at h1
    simp at h1
  have HKEEPS : Hid (∀ (w' : World) (a1 a2 a3 a4 : Value), Below W3.heap.size W3 w' → ((((w'.setCell ⟨w.heap.size + 1, 0, none⟩ a1).setCell ⟨w.heap.size + 1, 1, none⟩ a2).setCell ⟨w.heap.size + 1, 2, none⟩ a3).setCell ⟨w.heap.size + 1, 3, none⟩ a4).cell? ⟨w.heap.size, 0, none⟩ = some (.int .i64 m) ∧ ((((w'.setCell ⟨w.heap.size + 1, 0, none⟩ a1).setCell ⟨w.heap.size + 1, 1, none⟩ a2).setCell ⟨w.heap.size + 1, 2, none⟩ a3).setCell ⟨w.heap.size + 1, 3, none⟩ a4).cell? ⟨w.heap.size, 1, none⟩ = some (.int .i64 (pr m)) ∧ ((((w'.setCell ⟨w.heap.size + 1, 0, none⟩ a1).setCell ⟨w.heap.size + 1, 1, none⟩ a2).setCell ⟨w.heap.size + 1, 2, none⟩ a3).setCell ⟨w.heap.size + 1, 3, none⟩ a4).cell? ⟨w.heap.size, 2, none⟩ = some (.int .i64 (pl m)) ∧ ((((w'.setCell ⟨w.heap.size + 1, 0, none⟩ a1).setCell ⟨w.heap.size + 1, 1, none⟩ a2).setCell ⟨w.heap.size + 1, 2, none⟩ a3).setCell ⟨w.heap.size + 1, 3, none⟩ a4).cell? ⟨w.heap.size, 3, none⟩ = some (.slice (some ⟨g3, 0, none⟩) n cp3) ∧ ((((w'.setCell ⟨w.heap.size + 1, 0, none⟩ a1).setCell ⟨w.heap.size + 1, 1, none⟩ a2).setCell ⟨w.heap.size + 1, 2, none⟩ a3).setCell ⟨w.heap.size + 1, 3, none⟩ a4).cell? ⟨g3, 0, none⟩ = some (.int .i64 m) ∧ ((((w'.setCell ⟨w.heap.size + 1, 0, none⟩ a1).setCell ⟨w.heap.size + 1, 1, none⟩ a2).setCell ⟨w.heap.size + 1, 2, none⟩ a3).setCell ⟨w.heap.size + 1, 3, none⟩ a4).cell? ⟨g3, 1, none⟩ = some (.int .i64 (pr m)) ∧ ((((w'.setCell ⟨w.heap.size + 1, 0, none⟩ a1).setCell ⟨w.heap.size + 1, 1, none⟩ a2).setCell ⟨w.heap.size + 1, 2, none⟩ a3).setCell ⟨w.heap.size + 1, 3, none⟩ a4).cell? ⟨g3, 2, none⟩ = some (.int .i64 (pl m)) ∧ ((((w'.setCell ⟨w.heap.size + 1, 0, none⟩ a1).setCell ⟨w.heap.size + 1, 1, none⟩ a2).setCell ⟨w.heap.size + 1, 2, none⟩ a3).setCell ⟨w.heap.size + 1, 3, none⟩ a4).cell? ⟨g3, 3, none⟩ = some (.int .i64 (dg m (G 0) 0)) ∧ ((((w'.setCell ⟨w.heap.size + 1, 0, none⟩ a1).setCell ⟨w.heap.size + 1, 1, none⟩ a2).setCell ⟨w.heap.size + 1, 2, none⟩ a3).setCell ⟨w.heap.size + 1, 3, none⟩ a4).cell? ⟨g3, 4, none⟩ = some (.int .i64 (dg m (G 0) 1)) ∧ ((((w'.setCell ⟨w.heap.size + 1, 0, none⟩ a1).setCell ⟨w.heap.size + 1, 1, none⟩ a2).setCell ⟨w.heap.size + 1, 2, none⟩ a3).setCell ⟨w.heap.size + 1, 3, none⟩ a4).cell? ⟨g3, 5, none⟩ = some (.int .i64 (dg m (G 0) 2)) ∧ ((((w'.setCell ⟨w.heap.size + 1, 0, none⟩ a1).setCell ⟨w.heap.size + 1, 1, none⟩ a2).setCell ⟨w.heap.size + 1, 2, none⟩ a3).setCell ⟨w.heap.size + 1, 3, none⟩ a4).cell? ⟨g3, 6, none⟩ = some (.int .i64 (dg m (G 0) 3))) := Lib.hid fun w' a1 a2 a3 a4 hb => by
    have hN := HNW.out.below hb (Nat.le_refl _)
    have e1 : ((((w'.setCell ⟨w.heap.size + 1, 0, none⟩ a1).setCell ⟨w.heap.size + 1, 1, none⟩ a2).setCell ⟨w.heap.size + 1, 2, none⟩ a3).setCell ⟨w.heap.size + 1, 3, none⟩ a4).heap[w.heap.size]? = w'.heap[w.heap.size]? := (heap_setCell_other _ _ _ _ (by show w.heap.size ≠ w.heap.size + 1; omega)).trans ((heap_setCell_other _ _ _ _ (by show w.heap.size ≠ w.heap.size + 1; omega)).trans ((heap_setCell_other _ _ _ _ (by show w.heap.size ≠ w.heap.size + 1; omega)).trans (heap_setCell_other _ _ _ _ (by show w.heap.size ≠ w.heap.size + 1; omega))))
    have e2 : ((((w'.setCell ⟨w.heap.size + 1, 0, none⟩ a1).setCell ⟨w.heap.size + 1, 1, none⟩ a2).setCell ⟨w.heap.size + 1, 2, none⟩ a3).setCell ⟨w.heap.size + 1, 3, none⟩ a4).heap[g3]? = w'.heap[g3]? := (heap_setCell_other _ _ _ _ hgr).trans ((heap_setCell_other _ _ _ _ hgr).trans ((heap_setCell_other _ _ _ _ hgr).trans (heap_setCell_other _ _ _ _ hgr)))
    obtain ⟨x0, x1, x2, x3, _⟩ := cells4 (e1.trans hN.hp)
    have hy := (hN.he.same e2) 0 (by omega)
    simp only [Nat.zero_mul, Nat.zero_add] at hy
    obtain ⟨y0, y1, y2, y3, y4, y5, y6⟩ := hy
    exact ⟨x0, x1, x2, x3, y0, y1, y2, y3, y4, y5, y6⟩
  go_region_held3 (fun w' => w'.cell? ⟨w.heap.size, 0, none⟩ = some (.int .i64 m) ∧ w'.cell? ⟨w.heap.size, 1, none⟩ = some (.int .i64 (pr m)) ∧ w'.cell? ⟨w.heap.size, 2, none⟩ = some (.int .i64 (pl m)) ∧ w'.cell? ⟨w.heap.size, 3, none⟩ = some (.slice (some ⟨g3, 0, none⟩) n cp3) ∧ w'.cell? ⟨g3, 0, none⟩ = some (.int .i64 m) ∧ w'.cell? ⟨g3, 1, none⟩ = some (.int .i64 (pr m)) ∧ w'.cell? ⟨g3, 2, none⟩ = some (.int .i64 (pl m)) ∧ w'.cell? ⟨g3, 3, none⟩ = some (.int .i64 (dg m (G 0) 0)) ∧ w'.cell? ⟨g3, 4, none⟩ = some (.int .i64 (dg m (G 0) 1)) ∧ w'.cell? ⟨g3, 5, none⟩ = some (.int .i64 (dg m (G 0) 2)) ∧ w'.cell? ⟨g3, 6, none⟩ = some (.int .i64 (dg m (G 0) 3)))
    (first
    | (refine HKEEP.out _ ?_; (try have hb15 := HB15.out); (try have hb17 := HB17.out); (repeat' (first | (with_reducible assumption) | (with_reducible exact Below.refl _ _) | (with_reducible refine below_drewN ?_ _) | (with_reducible refine Below.drew ?_) | (with_reducible refine Below.alloc ?_ ?_ _) | (with_reducible refine Below.setCell ?_ ?_ _) | (with_reducible refine Below.trans ?_ (Below.mono (by assumption) ?_)) | (with_reducible exact Nat.le_refl _) | (with_reducible assumption) | omega | (simp; omega) | (simp; done))); done)
    | (refine HKEEPS.out w17 _ _ _ _ ?_; have hb15 := HB15.out; have hb17 := HB17.out; (repeat' (first | (with_reducible assumption) | (with_reducible exact Below.refl _ _) | (with_reducible refine below_drewN ?_ _) | (with_reducible refine Below.drew ?_) | (with_reducible refine Below.alloc ?_ ?_ _) | (with_reducible refine Below.setCell ?_ ?_ _) | (with_reducible refine Below.trans ?_ (Below.mono (by assumption) ?_)) | (with_reducible exact Nat.le_refl _) | (with_reducible assumption) | omega | (simp; omega) | (simp; done))); done))
    (first
    | (go_at_call 99; refine (HNEG.out _).mono ?_; rintro e w15 ⟨rfl, hb15⟩; obtain ⟨hc15, hf15⟩ := bcell hb15; (try simp only [World.size_drew] at hc15 hf15); have hz15 := hb15.size; (try simp at hz15); have HB15 := Lib.hid hb15; clear hb15; have l15 : w.heap.size + 1 < w15.heap.size := (by omega))
    | (go_at_call 59; refine (HPE.out _ _ ⟨g3, cp3, rfl, by have := HNW.out.lt; omega, HNW.out.he.below (B := W3.heap.size) (by (try have hb15 := HB15.out); (repeat' (first | (with_reducible assumption) | (with_reducible exact Below.refl _ _) | (with_reducible refine below_drewN ?_ _) | (with_reducible refine Below.drew ?_) | (with_reducible refine Below.alloc ?_ ?_ _) | (with_reducible refine Below.setCell ?_ ?_ _) | (with_reducible refine Below.trans ?_ (Below.mono (by assumption) ?_)) | (with_reducible exact Nat.le_refl _) | (with_reducible assumption) | omega | (simp; omega) | (simp; done)))) HNW.out.lt⟩).mono ?_; rintro e w17 ⟨g17, cp17, rfl, hg17, he17, hb17⟩; have HE17 := Lib.hid he17; clear he17; obtain ⟨hc17, hf17⟩ := bcell hb17; (try simp only [World.size_drew] at hc17 hf17); have hz17 := hb17.size; (try simp at hz17); have HB17 := Lib.hid hb17; clear hb17; have l17 : w.heap.size + 1 < w17.heap.size := (by omega)))
  all_goals
    go_wp2_with fail
    have hN17 : NM w w17 m G n g3 cp3 := HNW.out.below (B := W3.heap.size) (by have hb15 := HB15.out; have hb17 := HB17.out; (repeat' (first | (with_reducible assumption) | (with_reducible exact Below.refl _ _) | (with_reducible refine below_drewN ?_ _) | (with_reducible refine Below.drew ?_) | (with_reducible refine Below.alloc ?_ ?_ _) | (with_reducible refine Below.setCell ?_ ?_ _) | (with_reducible refine Below.trans ?_ (Below.mono (by assumption) ?_)) | (with_reducible exact Nat.le_refl _) | (with_reducible assumption) | omega | (simp; omega) | (simp; done)))) (Nat.le_refl _)
    obtain ⟨r0, r1, r2, r3, rf, rl0⟩ := cells4 hN17.hr
    refine bodyPost_ret (v := polyE (m : Int) (.slice (some ⟨g17, 0, none⟩) RK cp17)) (by simp [results, Try.results65, go_sem, r0, r1, r2, r3]) rfl ⟨g17, RK, cp17, RR, rfl, by simp; omega, ?_, HRE.out, HRN.out, HN0.out, ?_⟩
    · exact HE17.out.over hN17.hr (by omega) (fun k hk => by (repeat' (first | (with_reducible rfl) | (with_reducible refine (heap_setCell_other _ _ _ _ ?_).trans ?_) | (with_reducible refine (drew_heap' _ _).trans ?_) | exact hk)))
    · have hb := hN17.bel
      (repeat' (first | (with_reducible assumption) | (with_reducible exact Below.refl _ _) | (with_reducible refine below_drewN ?_ _) | (with_reducible refine Below.drew ?_) | (with_reducible refine Below.alloc ?_ ?_ _) | (with_reducible refine Below.setCell ?_ ?_ _) | (with_reducible refine Below.trans ?_ (Below.mono (by assumption) ?_)) | (with_reducible exact Nat.le_refl _) | (with_reducible assumption) | omega | (simp; omega) | (simp; done)))
end Go.Proofs.Ytimpgbifnijkkaa
