/- A bundle of texts: IG II. -/
import Derived.Deep.RegionHeld3
import Derived.Test.YtapglncgicfjnabGreatKN
namespace Go.Proofs.YtapglncgicfjnabGreat
open Go.RowKit
set_option maxRecDepth 100000 in
set_option maxHeartbeats 4000000 in
/-- The closure of impl.zipped over elements, at impl.element.plus. -/
theorem cloZ_plus (q x y z : Int) (i n g1 cap1 g2 cap2 A0 A1 A2 : Nat) (w : World) (hin : i < n)
    (HX : ∀ w', Below w.heap.size w w' → Calls Tryz.prog 147 #[elE q x, elE q y] w' fun e w'' => e = .returned (elE q z) ∧ Below w'.heap.size w' w'')
    (c0 : w.cell? ⟨A0, 0, none⟩ = some (.func (.func 147) #[] #[])) (c1 : w.cell? ⟨A1, 0, none⟩ = some (.slice (some ⟨g1, 0, none⟩) n cap1)) (c2 : w.cell? ⟨A2, 0, none⟩ = some (.slice (some ⟨g2, 0, none⟩) n cap2))
    (he : w.cell? ⟨g1, i * 7, none⟩ = some (.int .i64 q) ∧ w.cell? ⟨g1, i * 7 + 1, none⟩ = some (.int .i64 (pr q)) ∧ w.cell? ⟨g1, i * 7 + 2, none⟩ = some (.int .i64 (pl q)) ∧
      w.cell? ⟨g1, i * 7 + 3, none⟩ = some (.int .i64 (dg q x 0)) ∧ w.cell? ⟨g1, i * 7 + 4, none⟩ = some (.int .i64 (dg q x 1)) ∧ w.cell? ⟨g1, i * 7 + 5, none⟩ = some (.int .i64 (dg q x 2)) ∧ w.cell? ⟨g1, i * 7 + 6, none⟩ = some (.int .i64 (dg q x 3)))
    (hd : w.cell? ⟨g2, i * 7, none⟩ = some (.int .i64 q) ∧ w.cell? ⟨g2, i * 7 + 1, none⟩ = some (.int .i64 (pr q)) ∧ w.cell? ⟨g2, i * 7 + 2, none⟩ = some (.int .i64 (pl q)) ∧
      w.cell? ⟨g2, i * 7 + 3, none⟩ = some (.int .i64 (dg q y 0)) ∧ w.cell? ⟨g2, i * 7 + 4, none⟩ = some (.int .i64 (dg q y 1)) ∧ w.cell? ⟨g2, i * 7 + 5, none⟩ = some (.int .i64 (dg q y 2)) ∧ w.cell? ⟨g2, i * 7 + 6, none⟩ = some (.int .i64 (dg q y 3))) :
    Calls Tryz.prog 205 #[.int .i64 i, .pointer (some ⟨A0, 0, none⟩), .pointer (some ⟨A1, 0, none⟩), .pointer (some ⟨A2, 0, none⟩)] w fun e w' => e = .returned (elE q z) ∧ Below w.heap.size w w' := by
  have HXX := Lib.hid HX; clear HX
  obtain ⟨e0, e1, e2, e3, e4, e5, e6⟩ := he
  obtain ⟨d0, d1, d2, d3, d4, d5, d6⟩ := hd
  have l0 := World.block_lt_of_cell? w _ c0
  have l1 := World.block_lt_of_cell? w _ c1
  have l2 := World.block_lt_of_cell? w _ c2
  have l3 := World.block_lt_of_cell? w _ e0
  have l4 := World.block_lt_of_cell? w _ d0
  simp only at l0 l1 l2 l3 l4
  go_enter Tryz.func205, Tryz.ntmps205
  go_wp2_with fail
  have HKEEP : Hid (∀ w', Below w.heap.size w w' → w'.cell? ⟨A0, 0, none⟩ = some (.func (.func 147) #[] #[]) ∧ w'.cell? ⟨A1, 0, none⟩ = some (.slice (some ⟨g1, 0, none⟩) n cap1) ∧ w'.cell? ⟨A2, 0, none⟩ = some (.slice (some ⟨g2, 0, none⟩) n cap2) ∧ w'.cell? ⟨g1, i * 7, none⟩ = some (.int .i64 q) ∧ w'.cell? ⟨g1, i * 7 + 1, none⟩ = some (.int .i64 (pr q)) ∧ w'.cell? ⟨g1, i * 7 + 2, none⟩ = some (.int .i64 (pl q)) ∧ w'.cell? ⟨g1, i * 7 + 3, none⟩ = some (.int .i64 (dg q x 0)) ∧ w'.cell? ⟨g1, i * 7 + 4, none⟩ = some (.int .i64 (dg q x 1)) ∧ w'.cell? ⟨g1, i * 7 + 5, none⟩ = some (.int .i64 (dg q x 2)) ∧ w'.cell? ⟨g1, i * 7 + 6, none⟩ = some (.int .i64 (dg q x 3)) ∧ w'.cell? ⟨g2, i * 7, none⟩ = some (.int .i64 q) ∧ w'.cell? ⟨g2, i * 7 + 1, none⟩ = some (.int .i64 (pr q)) ∧ w'.cell? ⟨g2, i * 7 + 2, none⟩ = some (.int .i64 (pl q)) ∧ w'.cell? ⟨g2, i * 7 + 3, none⟩ = some (.int .i64 (dg q y 0)) ∧ w'.cell? ⟨g2, i * 7 + 4, none⟩ = some (.int .i64 (dg q y 1)) ∧ w'.cell? ⟨g2, i * 7 + 5, none⟩ = some (.int .i64 (dg q y 2)) ∧ w'.cell? ⟨g2, i * 7 + 6, none⟩ = some (.int .i64 (dg q y 3))) := Lib.hid fun w' hb => by
    exact ⟨(hb.cell (p := ⟨A0, 0, none⟩) l0).trans c0, (hb.cell (p := ⟨A1, 0, none⟩) l1).trans c1, (hb.cell (p := ⟨A2, 0, none⟩) l2).trans c2, (hb.cell (p := ⟨g1, i * 7, none⟩) l3).trans e0, (hb.cell (p := ⟨g1, i * 7 + 1, none⟩) l3).trans e1, (hb.cell (p := ⟨g1, i * 7 + 2, none⟩) l3).trans e2, (hb.cell (p := ⟨g1, i * 7 + 3, none⟩) l3).trans e3, (hb.cell (p := ⟨g1, i * 7 + 4, none⟩) l3).trans e4, (hb.cell (p := ⟨g1, i * 7 + 5, none⟩) l3).trans e5, (hb.cell (p := ⟨g1, i * 7 + 6, none⟩) l3).trans e6, (hb.cell (p := ⟨g2, i * 7, none⟩) l4).trans d0, (hb.cell (p := ⟨g2, i * 7 + 1, none⟩) l4).trans d1, (hb.cell (p := ⟨g2, i * 7 + 2, none⟩) l4).trans d2, (hb.cell (p := ⟨g2, i * 7 + 3, none⟩) l4).trans d3, (hb.cell (p := ⟨g2, i * 7 + 4, none⟩) l4).trans d4, (hb.cell (p := ⟨g2, i * 7 + 5, none⟩) l4).trans d5, (hb.cell (p := ⟨g2, i * 7 + 6, none⟩) l4).trans d6⟩
  go_region_held3 (fun w' => w'.cell? ⟨A0, 0, none⟩ = some (.func (.func 147) #[] #[]) ∧ w'.cell? ⟨A1, 0, none⟩ = some (.slice (some ⟨g1, 0, none⟩) n cap1) ∧ w'.cell? ⟨A2, 0, none⟩ = some (.slice (some ⟨g2, 0, none⟩) n cap2) ∧ w'.cell? ⟨g1, i * 7, none⟩ = some (.int .i64 q) ∧ w'.cell? ⟨g1, i * 7 + 1, none⟩ = some (.int .i64 (pr q)) ∧ w'.cell? ⟨g1, i * 7 + 2, none⟩ = some (.int .i64 (pl q)) ∧ w'.cell? ⟨g1, i * 7 + 3, none⟩ = some (.int .i64 (dg q x 0)) ∧ w'.cell? ⟨g1, i * 7 + 4, none⟩ = some (.int .i64 (dg q x 1)) ∧ w'.cell? ⟨g1, i * 7 + 5, none⟩ = some (.int .i64 (dg q x 2)) ∧ w'.cell? ⟨g1, i * 7 + 6, none⟩ = some (.int .i64 (dg q x 3)) ∧ w'.cell? ⟨g2, i * 7, none⟩ = some (.int .i64 q) ∧ w'.cell? ⟨g2, i * 7 + 1, none⟩ = some (.int .i64 (pr q)) ∧ w'.cell? ⟨g2, i * 7 + 2, none⟩ = some (.int .i64 (pl q)) ∧ w'.cell? ⟨g2, i * 7 + 3, none⟩ = some (.int .i64 (dg q y 0)) ∧ w'.cell? ⟨g2, i * 7 + 4, none⟩ = some (.int .i64 (dg q y 1)) ∧ w'.cell? ⟨g2, i * 7 + 5, none⟩ = some (.int .i64 (dg q y 2)) ∧ w'.cell? ⟨g2, i * 7 + 6, none⟩ = some (.int .i64 (dg q y 3)))
    (exact HKEEP.out _ (by (try have hb1 := HB1.out); (repeat' (first | (with_reducible assumption) | (with_reducible exact Below.refl _ _) | (with_reducible refine below_drewN ?_ _) | (with_reducible refine Below.drew ?_) | (with_reducible refine Below.alloc ?_ ?_ _) | (with_reducible refine Below.setCell ?_ ?_ _) | (with_reducible refine Below.trans ?_ (Below.mono (by assumption) ?_)) | (with_reducible exact Nat.le_refl _) | (with_reducible assumption) | omega | (simp; omega) | (simp; done)))))
    (first | (go_at_call 147; refine (HXX.out _ (by (repeat' (first | (with_reducible assumption) | (with_reducible exact Below.refl _ _) | (with_reducible refine below_drewN ?_ _) | (with_reducible refine Below.drew ?_) | (with_reducible refine Below.alloc ?_ ?_ _) | (with_reducible refine Below.setCell ?_ ?_ _) | (with_reducible refine Below.trans ?_ (Below.mono (by assumption) ?_)) | (with_reducible exact Nat.le_refl _) | (with_reducible assumption) | omega | (simp; omega) | (simp; done))))).mono ?_; rintro e w1 ⟨rfl, hb1⟩; obtain ⟨hc1, hf1⟩ := bcell hb1; (try simp only [World.size_drew] at hc1 hf1); have hz1 := hb1.size; (try simp at hz1); have HB1 := Lib.hid hb1; clear hb1; have l5 : w.heap.size < w1.heap.size := (by omega)))
  all_goals
    go_wp2_with fail
    have hb1 := HB1.out
    have q0 : w1.heap[w.heap.size]? = some zeroblk := (hb1.block _ (by simp)).trans (heap_alloc_new w _)
    obtain ⟨s0, s1, s2, s3, s4, s5, s6, sf, sl⟩ := seven q0
    clear q0
    refine bodyPost_ret (v := elE q z) (by simp [results, Tryz.results205, go_sem, s0, s1, s2, s3, s4, s5, s6]) rfl ⟨rfl, ?_⟩
    (repeat' (first | (with_reducible assumption) | (with_reducible exact Below.refl _ _) | (with_reducible refine below_drewN ?_ _) | (with_reducible refine Below.drew ?_) | (with_reducible refine Below.alloc ?_ ?_ _) | (with_reducible refine Below.setCell ?_ ?_ _) | (with_reducible refine Below.trans ?_ (Below.mono (by assumption) ?_)) | (with_reducible exact Nat.le_refl _) | (with_reducible assumption) | omega | (simp; omega) | (simp; done)))
set_option maxHeartbeats 2000000 in
/-- impl.zipped over elements, at impl.element.plus. -/
theorem zipped_plus (q : Int) (v1 v2 : Value) (f g u : Nat → Int) (n : Nat) (w : World) (hv1 : Se w v1 q f n) (hv2 : Se w v2 q g n) (hl : n ≤ 1000)
    (HC : ∀ i, i < n → ∀ w', Below w.heap.size w w' → Calls Tryz.prog 147 #[elE q (f i), elE q (g i)] w' fun e w'' => e = .returned (elE q (u i)) ∧ Below w'.heap.size w' w'') :
    Calls Tryz.prog 158 #[v1, v2, .func (.func 147) #[] #[]] w fun e w' => ∃ g', e = .returned (.slice (some ⟨g', 0, none⟩) n n) ∧ w.heap.size ≤ g' ∧ Blk w' g' n ∧ Els w' g' q u n ∧ Below w.heap.size w w' := by
  obtain ⟨g1, cap1, rfl, hg1, he1⟩ := hv1
  obtain ⟨g2, cap2, rfl, hg2, he2⟩ := hv2
  have HX : Hid (∀ (T1 T2 T3 : TypeId) (i : Nat) w', i < n → Below (((w.alloc (.cells #[.slice (some ⟨g1, 0, none⟩) n cap1] T1)).alloc (.cells #[.slice (some ⟨g2, 0, none⟩) n cap2] T2)).alloc (.cells #[.func (.func 147) #[] #[]] T3)).heap.size (((w.alloc (.cells #[.slice (some ⟨g1, 0, none⟩) n cap1] T1)).alloc (.cells #[.slice (some ⟨g2, 0, none⟩) n cap2] T2)).alloc (.cells #[.func (.func 147) #[] #[]] T3)) w' →
      Calls Tryz.prog 205 #[.int .i64 i, .pointer (some ⟨w.heap.size + 1 + 1, 0, none⟩), .pointer (some ⟨w.heap.size, 0, none⟩), .pointer (some ⟨w.heap.size + 1, 0, none⟩)] w' fun e w'' => e = .returned (elE q (u i)) ∧ Below w'.heap.size w' w'') := Lib.hid fun T1 T2 T3 i w' hi hb => by
    have hbw : Below w.heap.size w w' := by (repeat' (first | (with_reducible assumption) | (with_reducible exact Below.refl _ _) | (with_reducible refine below_drewN ?_ _) | (with_reducible refine Below.drew ?_) | (with_reducible refine Below.alloc ?_ ?_ _) | (with_reducible refine Below.setCell ?_ ?_ _) | (with_reducible refine Below.trans ?_ (Below.mono (by assumption) ?_)) | (with_reducible exact Nat.le_refl _) | (with_reducible assumption) | omega | (simp; omega) | (simp; done)))
    obtain ⟨t0, t1, t2⟩ := three w (.cells #[.slice (some ⟨g1, 0, none⟩) n cap1] T1) (.cells #[.slice (some ⟨g2, 0, none⟩) n cap2] T2) (.cells #[.func (.func 147) #[] #[]] T3)
    refine cloZ_plus q _ _ _ i n g1 cap1 g2 cap2 _ _ _ w' hi (fun w'' hb'' => HC i hi w'' (hbw.trans (hb''.mono hbw.size))) (at_box (T := T3) ?_) (at_box (T := T1) ?_) (at_box (T := T2) ?_) ((he1.below hbw hg1) i hi) ((he2.below hbw hg2) i hi)
    · rw [hb.block _ (by simp)]
      exact t2
    · rw [hb.block _ (by simp; omega)]
      exact t0
    · rw [hb.block _ (by simp)]
      exact t1
  clear HC he1 he2
  go_enter Tryz.func158, Tryz.ntmps158
  go_wp2_with fail
  refine (listOf_Z q n u (w.heap.size + 1 + 1) w.heap.size (w.heap.size + 1) _ hl (HX.out _ _ _)).mono ?_
  rintro e w1 ⟨rfl, hk1, he1, hb1⟩
  have HK := Lib.hid hk1; clear hk1
  have HE := Lib.hid he1; clear he1
  have HB1 := Lib.hid hb1; clear hb1
  go_wp2
  go_ret
  have hb1 := HB1.out
  exact ⟨_, rfl, by omega, by simpa using HK.out, by simpa using HE.out, by (repeat' (first | (with_reducible assumption) | (with_reducible exact Below.refl _ _) | (with_reducible refine below_drewN ?_ _) | (with_reducible refine Below.drew ?_) | (with_reducible refine Below.alloc ?_ ?_ _) | (with_reducible refine Below.setCell ?_ ?_ _) | (with_reducible refine Below.trans ?_ (Below.mono (by assumption) ?_)) | (with_reducible exact Nat.le_refl _) | (with_reducible assumption) | omega | (simp; omega) | (simp; done)))⟩
set_option maxRecDepth 100000 in
set_option maxHeartbeats 8000000 in
/-- impl.poly.plus. -/
theorem plusPE (m n k : Nat) (v1 v2 : Value) (f g : Nat → Int) (w : World) (h : isSz (m : Int) = true) (hv1 : Se w v1 (m : Int) f n) (hv2 : Se w v2 (m : Int) g k) (hf : ∀ i, El (m : Int) (f i)) (hg : ∀ i, El (m : Int) (g i)) (hn : n ≤ m) (hk : k ≤ m) (zf : ∀ i, n ≤ i → f i = 0) (zg : ∀ i, k ≤ i → g i = 0) :
    Calls Tryz.prog 180 #[polyE (m : Int) v1, polyE (m : Int) v2] w fun e w' => ∃ g' cap, e = .returned (polyE (m : Int) (.slice (some ⟨g', 0, none⟩) (redn m (pls m f g) m) cap)) ∧ g' < w'.heap.size ∧ Els w' g' (m : Int) (redR m (pls m f g) m) (redn m (pls m f g) m) ∧ Below w.heap.size w w' := by
  have hq := isSz_le (m : Int) h
  have HP1 := Lib.hid (fun w' (hb : Below w.heap.size w w') => paddedE m n v1 f w' h (hv1.below hb (Nat.le_refl _)) hn zf)
  have HP2 := Lib.hid (fun w' (hb : Below w.heap.size w w') => paddedE m k v2 g w' h (hv2.below hb (Nat.le_refl _)) hk zg)
  have HZ := Lib.hid (fun v1 v2 w' (h1 : Se w' v1 (m : Int) f m) (h2 : Se w' v2 (m : Int) g m) => zipped_plus (m : Int) v1 v2 f g (pls m f g) m w' h1 h2 (by omega) (fun i hi w'' _ => plusE (m : Int) (f i) (g i) w'' h (hf i).1 (hf i).2 (hg i).1 (hg i).2))
  have HRD := Lib.hid (fun v' w' (hs : Se w' v' (m : Int) (pls m f g) m) => reducedE m v' (pls m f g) m w' h hs (pls_el h hf hg) (by omega))
  obtain ⟨g1, cap1, rfl, hg1, he1⟩ := hv1
  obtain ⟨g2, cap2, rfl, hg2, he2⟩ := hv2
  clear hf hg h zf zg he1 he2
  generalize redn m (pls m f g) m = K at *
  generalize redR m (pls m f g) m = R at *
  generalize pls (m : Int) f g = S at *
  go_enter Tryz.func180, Tryz.ntmps180
  go_wp2_with fail
  have HT3 := Lib.hid (three w (pblk (m : Int) (.slice (some ⟨g1, 0, none⟩) n cap1)) (pblk (m : Int) (.slice (some ⟨g2, 0, none⟩) k cap2)) pzblk).2.2
  have HB0 : Hid (Below w.heap.size w (((w.alloc (pblk (m : Int) (.slice (some ⟨g1, 0, none⟩) n cap1))).alloc (pblk (m : Int) (.slice (some ⟨g2, 0, none⟩) k cap2))).alloc pzblk)) := Lib.hid (by (repeat' (first | (with_reducible assumption) | (with_reducible exact Below.refl _ _) | (with_reducible refine below_drewN ?_ _) | (with_reducible refine Below.drew ?_) | (with_reducible refine Below.alloc ?_ ?_ _) | (with_reducible refine Below.setCell ?_ ?_ _) | (with_reducible refine Below.trans ?_ (Below.mono (by assumption) ?_)) | (with_reducible exact Nat.le_refl _) | (with_reducible assumption) | omega | (simp; omega) | (simp; done))))
  have HKEEP : Hid (∀ w', Below (w.heap.size + 2) ((w.alloc (pblk (m : Int) (.slice (some ⟨g1, 0, none⟩) n cap1))).alloc (pblk (m : Int) (.slice (some ⟨g2, 0, none⟩) k cap2))) w' →
      w'.cell? ⟨w.heap.size, 0, none⟩ = some (.int .i64 m) ∧ w'.cell? ⟨w.heap.size, 1, none⟩ = some (.int .i64 (pr m)) ∧ w'.cell? ⟨w.heap.size, 2, none⟩ = some (.int .i64 (pl m)) ∧ w'.cell? ⟨w.heap.size, 3, none⟩ = some (.slice (some ⟨g1, 0, none⟩) n cap1) ∧
      w'.cell? ⟨w.heap.size + 1, 0, none⟩ = some (.int .i64 m) ∧ w'.cell? ⟨w.heap.size + 1, 1, none⟩ = some (.int .i64 (pr m)) ∧ w'.cell? ⟨w.heap.size + 1, 2, none⟩ = some (.int .i64 (pl m)) ∧ w'.cell? ⟨w.heap.size + 1, 3, none⟩ = some (.slice (some ⟨g2, 0, none⟩) k cap2)) := Lib.hid fun w' hb => by
    obtain ⟨t0, t1⟩ := two w (pblk (m : Int) (.slice (some ⟨g1, 0, none⟩) n cap1)) (pblk (m : Int) (.slice (some ⟨g2, 0, none⟩) k cap2))
    obtain ⟨x0, x1, x2, x3, _⟩ := cells4 ((hb.block _ (by omega)).trans t0)
    obtain ⟨y0, y1, y2, y3, _⟩ := cells4 ((hb.block _ (by omega)).trans t1)
    exact ⟨x0, x1, x2, x3, y0, y1, y2, y3⟩
  go_region_held3 (fun w' => w'.cell? ⟨w.heap.size, 0, none⟩ = some (.int .i64 m) ∧ w'.cell? ⟨w.heap.size, 1, none⟩ = some (.int .i64 (pr m)) ∧ w'.cell? ⟨w.heap.size, 2, none⟩ = some (.int .i64 (pl m)) ∧ w'.cell? ⟨w.heap.size, 3, none⟩ = some (.slice (some ⟨g1, 0, none⟩) n cap1) ∧
      w'.cell? ⟨w.heap.size + 1, 0, none⟩ = some (.int .i64 m) ∧ w'.cell? ⟨w.heap.size + 1, 1, none⟩ = some (.int .i64 (pr m)) ∧ w'.cell? ⟨w.heap.size + 1, 2, none⟩ = some (.int .i64 (pl m)) ∧ w'.cell? ⟨w.heap.size + 1, 3, none⟩ = some (.slice (some ⟨g2, 0, none⟩) k cap2))
    (exact HKEEP.out _ (by (try have hb3 := HB3.out); (try have hb4 := HB4.out); (try have hb5 := HB5.out); (try have hb6 := HB6.out); (repeat' (first | (with_reducible assumption) | (with_reducible exact Below.refl _ _) | (with_reducible refine below_drewN ?_ _) | (with_reducible refine Below.drew ?_) | (with_reducible refine Below.alloc ?_ ?_ _) | (with_reducible refine Below.setCell ?_ ?_ _) | (with_reducible refine Below.trans ?_ (Below.mono (by assumption) ?_)) | (with_reducible exact Nat.le_refl _) | (with_reducible assumption) | omega | (simp; omega) | (simp; done)))))
    (first
    | (go_at_call_of 214 (Value.slice (some ⟨g1, 0, none⟩) n cap1); refine (HP1.out _ (by (try have hb4 := HB4.out); (repeat' (first | (with_reducible assumption) | (with_reducible exact Below.refl _ _) | (with_reducible refine below_drewN ?_ _) | (with_reducible refine Below.drew ?_) | (with_reducible refine Below.alloc ?_ ?_ _) | (with_reducible refine Below.setCell ?_ ?_ _) | (with_reducible refine Below.trans ?_ (Below.mono (by assumption) ?_)) | (with_reducible exact Nat.le_refl _) | (with_reducible assumption) | omega | (simp; omega) | (simp; done))))).mono ?_; rintro e w3 ⟨g3, rfl, hg3, hk3, he3, hb3⟩; have HSE3 : Hid (Se w3 (.slice (some ⟨g3, 0, none⟩) m m) (m : Int) f m) := Lib.hid ⟨g3, _, rfl, hk3.lt, he3⟩; clear hk3 he3; obtain ⟨hc3, hf3⟩ := bcell hb3; (try simp only [World.size_drew] at hc3 hf3); have hz3 := hb3.size; (try simp at hz3); have HB3 := Lib.hid hb3; clear hb3; have l3 : w.heap.size + 2 < w3.heap.size := (by omega))
    | (go_at_call_of 214 (Value.slice (some ⟨g2, 0, none⟩) k cap2); refine (HP2.out _ (by (try have hb3 := HB3.out); (repeat' (first | (with_reducible assumption) | (with_reducible exact Below.refl _ _) | (with_reducible refine below_drewN ?_ _) | (with_reducible refine Below.drew ?_) | (with_reducible refine Below.alloc ?_ ?_ _) | (with_reducible refine Below.setCell ?_ ?_ _) | (with_reducible refine Below.trans ?_ (Below.mono (by assumption) ?_)) | (with_reducible exact Nat.le_refl _) | (with_reducible assumption) | omega | (simp; omega) | (simp; done))))).mono ?_; rintro e w4 ⟨g4, rfl, hg4, hk4, he4, hb4⟩; have HSE4 : Hid (Se w4 (.slice (some ⟨g4, 0, none⟩) m m) (m : Int) g m) := Lib.hid ⟨g4, _, rfl, hk4.lt, he4⟩; clear hk4 he4; obtain ⟨hc4, hf4⟩ := bcell hb4; (try simp only [World.size_drew] at hc4 hf4); have hz4 := hb4.size; (try simp at hz4); have HB4 := Lib.hid hb4; clear hb4; have l4 : w.heap.size + 2 < w4.heap.size := (by omega))
    | (go_at_call 158; refine (HZ.out _ _ _ (by first | exact HSE3.out | exact HSE3.out.below HB4.out (by simp)) (by first | exact HSE4.out | exact HSE4.out.below HB3.out (by simp))).mono ?_; rintro e w5 ⟨g5, rfl, hg5, hk5, he5, hb5⟩; have HSE5 : Hid (Se w5 (.slice (some ⟨g5, 0, none⟩) m m) (m : Int) S m) := Lib.hid ⟨g5, _, rfl, hk5.lt, he5⟩; clear hk5 he5; obtain ⟨hc5, hf5⟩ := bcell hb5; (try simp only [World.size_drew] at hc5 hf5); have hz5 := hb5.size; (try simp at hz5); have HB5 := Lib.hid hb5; clear hb5; have l5 : w.heap.size + 2 < w5.heap.size := (by omega))
    | (go_at_call 151; refine (HRD.out _ _ HSE5.out).mono ?_; rintro e w6 ⟨g6, cp6, rfl, hg6, he6, hb6⟩; have HE6 := Lib.hid he6; clear he6; obtain ⟨hc6, hf6⟩ := bcell hb6; (try simp only [World.size_drew] at hc6 hf6); have hz6 := hb6.size; (try simp at hz6); have HB6 := Lib.hid hb6; clear hb6; have l6 : w.heap.size + 2 < w6.heap.size := (by omega)))
  all_goals
    go_wp2_with fail
    have hb3 := HB3.out
    have hb4 := HB4.out
    have hb5 := HB5.out
    have hb6 := HB6.out
    have hr : w6.heap[w.heap.size + 2]? = some pzblk := (Below.block (B := w.heap.size + 3) (w := ((w.alloc (pblk (m : Int) (.slice (some ⟨g1, 0, none⟩) n cap1))).alloc (pblk (m : Int) (.slice (some ⟨g2, 0, none⟩) k cap2))).alloc pzblk) (by (repeat' (first | (with_reducible assumption) | (with_reducible exact Below.refl _ _) | (with_reducible refine below_drewN ?_ _) | (with_reducible refine Below.drew ?_) | (with_reducible refine Below.alloc ?_ ?_ _) | (with_reducible refine Below.setCell ?_ ?_ _) | (with_reducible refine Below.trans ?_ (Below.mono (by assumption) ?_)) | (with_reducible exact Nat.le_refl _) | (with_reducible assumption) | omega | (simp; omega) | (simp; done)))) (w.heap.size + 2) (by omega)).trans HT3.out
    obtain ⟨r0, r1, r2, r3, rf, rl0⟩ := cells4 hr
    refine bodyPost_ret (v := polyE (m : Int) (.slice (some ⟨g6, 0, none⟩) K cp6)) (by simp [results, Tryz.results180, go_sem, r0, r1, r2, r3]) rfl ⟨g6, cp6, rfl, by simp; omega, ?_, ?_⟩
    · exact HE6.out.over hr (by omega) (fun k hk => by (repeat' (first | (with_reducible rfl) | (with_reducible refine (heap_setCell_other _ _ _ _ ?_).trans ?_) | (with_reducible refine (drew_heap' _ _).trans ?_) | exact hk)))
    · (repeat' (first | (with_reducible assumption) | (with_reducible exact Below.refl _ _) | (with_reducible refine below_drewN ?_ _) | (with_reducible refine Below.drew ?_) | (with_reducible refine Below.alloc ?_ ?_ _) | (with_reducible refine Below.setCell ?_ ?_ _) | (with_reducible refine Below.trans ?_ (Below.mono (by assumption) ?_)) | (with_reducible exact Nat.le_refl _) | (with_reducible assumption) | omega | (simp; omega) | (simp; done)))
end Go.Proofs.YtapglncgicfjnabGreat
