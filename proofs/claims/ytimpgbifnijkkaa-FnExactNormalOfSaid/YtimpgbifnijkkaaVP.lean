/- impl.poly.plusElement, by a contract. -/
import Derived.Test.YtimpgbifnijkkaaKQ
import Derived.Test.YtimpgbifnijkkaaKP
import Derived.Deep.RegionHeld3
namespace Go.Proofs.Ytimpgbifnijkkaa
open Go.RowKit
theorem one_lit (m : Nat) (c : Int) (g : Nat) (w1 : World) (h : w1.heap[g]? = some (eblk (m : Int) c)) : Se w1 (.slice (some ⟨g, 0, none⟩) 1 1) (m : Int) (fun _ => c) 1 := by
  obtain ⟨s0, s1, s2, s3, s4, s5, s6, _, hl⟩ := seven h
  refine ⟨g, 1, rfl, hl, fun j hj => ?_⟩
  obtain rfl : j = 0 := by omega
  exact ⟨s0, s1, s2, s3, s4, s5, s6⟩
set_option maxRecDepth 100000 in
set_option maxHeartbeats 4000000 in
theorem plusElementE (m n : Nat) (a : Int) (v : Value) (f : Nat → Int) (w : World) (h : isSz (m : Int) = true) (hv : Se w v (m : Int) f n) (hf : ∀ i, El (m : Int) (f i)) (hn : n ≤ m) (zf : ∀ i, n ≤ i → f i = 0) (ha : El (m : Int) a) :
    Calls Try.prog 59 #[polyE (m : Int) v, elE (m : Int) a] w fun e w' => ∃ g cap, e = .returned (polyE (m : Int) (.slice (some ⟨g, 0, none⟩) (redn m (pls m f (redR m (fun _ => a) 1)) m) cap)) ∧ g < w'.heap.size ∧ Els w' g (m : Int) (redR m (pls m f (redR m (fun _ => a) 1)) m) (redn m (pls m f (redR m (fun _ => a) 1)) m) ∧ Below w.heap.size w w' := by
  have hq := isSz_le (m : Int) h
  obtain ⟨g0, c0, rfl, hg0, he0⟩ := hv
  have HRED := Lib.hid (fun g' w' (hs : w'.heap[g']? = some (eblk (m : Int) a)) => reducedE m (.slice (some ⟨g', 0, none⟩) 1 1) (fun _ => a) 1 w' h (one_lit m _ g' w' hs) (fun _ => ha) (by omega))
  have HPL := Lib.hid (fun v2 w' (hb : Below w.heap.size w w') (h2 : Se w' v2 (m : Int) (redR m (fun _ => a) 1) (redn m (fun _ => a) 1)) => plusPE m n (redn m (fun _ => a) 1) (.slice (some ⟨g0, 0, none⟩) n c0) v2 f (redR m (fun _ => a) 1) w' h ⟨g0, c0, rfl, by have := hb.size; omega, he0.below hb hg0⟩ h2 hf (fun i => redR_el m _ h (fun _ => ha) _ _) hn (sn_le _ _) zf (fun i hi => redR_past h 1 i hi))
  clear h hf hn zf ha he0
  generalize redR m (pls m f (redR m (fun _ => a) 1)) m = RR at *
  generalize redn m (pls m f (redR m (fun _ => a) 1)) m = RK at *
  generalize redR m (fun _ => a) 1 = R1 at *
  generalize redn m (fun _ => a) 1 = K1 at *
  go_enter Try.func59, Try.ntmps59
  go_wp2_with fail
  have HT := Lib.hid (three w (pblk (m : Int) (.slice (some ⟨g0, 0, none⟩) n c0)) (eblk (m : Int) a) pzblk).2.2
  have HKEEP : Hid (∀ w', Below (w.heap.size + 2) ((w.alloc (pblk (m : Int) (.slice (some ⟨g0, 0, none⟩) n c0))).alloc (eblk (m : Int) a)) w' → w'.cell? ⟨w.heap.size, 0, none⟩ = some (.int .i64 m) ∧ w'.cell? ⟨w.heap.size, 1, none⟩ = some (.int .i64 (pr m)) ∧ w'.cell? ⟨w.heap.size, 2, none⟩ = some (.int .i64 (pl m)) ∧ w'.cell? ⟨w.heap.size, 3, none⟩ = some (.slice (some ⟨g0, 0, none⟩) n c0) ∧ w'.cell? ⟨w.heap.size + 1, 0, none⟩ = some (.int .i64 m) ∧ w'.cell? ⟨w.heap.size + 1, 1, none⟩ = some (.int .i64 (pr m)) ∧ w'.cell? ⟨w.heap.size + 1, 2, none⟩ = some (.int .i64 (pl m)) ∧ w'.cell? ⟨w.heap.size + 1, 3, none⟩ = some (.int .i64 (dg m a 0)) ∧ w'.cell? ⟨w.heap.size + 1, 4, none⟩ = some (.int .i64 (dg m a 1)) ∧ w'.cell? ⟨w.heap.size + 1, 5, none⟩ = some (.int .i64 (dg m a 2)) ∧ w'.cell? ⟨w.heap.size + 1, 6, none⟩ = some (.int .i64 (dg m a 3))) := Lib.hid fun w' hb => by
    obtain ⟨t0, t1⟩ := two w (pblk (m : Int) (.slice (some ⟨g0, 0, none⟩) n c0)) (eblk (m : Int) a)
    obtain ⟨x0, x1, x2, x3, _⟩ := cells4 ((hb.block _ (by omega)).trans t0)
    obtain ⟨y0, y1, y2, y3, y4, y5, y6, _⟩ := seven ((hb.block _ (by omega)).trans t1)
    exact ⟨x0, x1, x2, x3, y0, y1, y2, y3, y4, y5, y6⟩
  have hL3 : (((w.alloc (pblk (m : Int) (.slice (some ⟨g0, 0, none⟩) n c0))).alloc (eblk (m : Int) a)).alloc pzblk).heap.size = w.heap.size + 3 := by simp
  go_region_held3 (fun w' => w'.cell? ⟨w.heap.size, 0, none⟩ = some (.int .i64 m) ∧ w'.cell? ⟨w.heap.size, 1, none⟩ = some (.int .i64 (pr m)) ∧ w'.cell? ⟨w.heap.size, 2, none⟩ = some (.int .i64 (pl m)) ∧ w'.cell? ⟨w.heap.size, 3, none⟩ = some (.slice (some ⟨g0, 0, none⟩) n c0) ∧ w'.cell? ⟨w.heap.size + 1, 0, none⟩ = some (.int .i64 m) ∧ w'.cell? ⟨w.heap.size + 1, 1, none⟩ = some (.int .i64 (pr m)) ∧ w'.cell? ⟨w.heap.size + 1, 2, none⟩ = some (.int .i64 (pl m)) ∧ w'.cell? ⟨w.heap.size + 1, 3, none⟩ = some (.int .i64 (dg m a 0)) ∧ w'.cell? ⟨w.heap.size + 1, 4, none⟩ = some (.int .i64 (dg m a 1)) ∧ w'.cell? ⟨w.heap.size + 1, 5, none⟩ = some (.int .i64 (dg m a 2)) ∧ w'.cell? ⟨w.heap.size + 1, 6, none⟩ = some (.int .i64 (dg m a 3)))
    (exact HKEEP.out _ (by (try have hb3 := HB3.out); (try have hb4 := HB4.out); (repeat' (first | (with_reducible assumption) | (with_reducible exact Below.refl _ _) | (with_reducible refine below_drewN ?_ _) | (with_reducible refine Below.drew ?_) | (with_reducible refine Below.alloc ?_ ?_ _) | (with_reducible refine Below.setCell ?_ ?_ _) | (with_reducible refine Below.trans ?_ (Below.mono (by assumption) ?_)) | (with_reducible exact Nat.le_refl _) | (with_reducible assumption) | omega | (simp; omega) | (simp; done)))))
    (first
    | (go_at_call 104; refine (HRED.out _ _ (by first | exact heap_alloc_new _ _ | (simp; done) | (rw [show w.heap.size + 3 = (((w.alloc (pblk (m : Int) (.slice (some ⟨g0, 0, none⟩) n c0))).alloc (eblk (m : Int) a)).alloc pzblk).heap.size from by simp]; exact heap_alloc_new _ _))).mono ?_; rintro e w3 ⟨g3, c3, rfl, hg3, he3, hb3⟩; have HE3 := Lib.hid he3; clear he3; obtain ⟨hc3, hf3⟩ := bcell hb3; (try simp only [World.size_drew] at hc3 hf3); have hz3 := hb3.size; (try simp at hz3); have HB3 := Lib.hid hb3; clear hb3; have l3 : w.heap.size + 2 < w3.heap.size := (by omega))
    | (go_at_call 89; refine (HPL.out _ _ (by have hb3 := HB3.out; (repeat' (first | (with_reducible assumption) | (with_reducible exact Below.refl _ _) | (with_reducible refine below_drewN ?_ _) | (with_reducible refine Below.drew ?_) | (with_reducible refine Below.alloc ?_ ?_ _) | (with_reducible refine Below.setCell ?_ ?_ _) | (with_reducible refine Below.trans ?_ (Below.mono (by assumption) ?_)) | (with_reducible exact Nat.le_refl _) | (with_reducible assumption) | omega | (simp; omega) | (simp; done)))) ⟨g3, c3, rfl, hg3, HE3.out⟩).mono ?_; rintro e w4 ⟨g4, c4, rfl, hg4, he4, hb4⟩; have HE4 := Lib.hid he4; clear he4; obtain ⟨hc4, hf4⟩ := bcell hb4; (try simp only [World.size_drew] at hc4 hf4); have hz4 := hb4.size; (try simp at hz4); have HB4 := Lib.hid hb4; clear hb4; have l4 : w.heap.size + 2 < w4.heap.size := (by omega)))
  all_goals
    go_wp2_with fail
    have hb3 := HB3.out
    have hb4 := HB4.out
    have hr : w4.heap[w.heap.size + 2]? = some pzblk := (Below.block (B := w.heap.size + 3) (w := ((w.alloc (pblk (m : Int) (.slice (some ⟨g0, 0, none⟩) n c0))).alloc (eblk (m : Int) a)).alloc pzblk) (by (repeat' (first | (with_reducible assumption) | (with_reducible exact Below.refl _ _) | (with_reducible refine below_drewN ?_ _) | (with_reducible refine Below.drew ?_) | (with_reducible refine Below.alloc ?_ ?_ _) | (with_reducible refine Below.setCell ?_ ?_ _) | (with_reducible refine Below.trans ?_ (Below.mono (by assumption) ?_)) | (with_reducible exact Nat.le_refl _) | (with_reducible assumption) | omega | (simp; omega) | (simp; done)))) (w.heap.size + 2) (by omega)).trans HT.out
    obtain ⟨r0, r1, r2, r3, rf, rl0⟩ := cells4 hr
    refine bodyPost_ret (v := polyE (m : Int) (.slice (some ⟨g4, 0, none⟩) RK c4)) (by simp [results, Try.results59, go_sem, r0, r1, r2, r3]) rfl ⟨g4, c4, rfl, by simp; omega, ?_, ?_⟩
    · exact HE4.out.over hr (by omega) (fun k hk => by (repeat' (first | (with_reducible rfl) | (with_reducible refine (heap_setCell_other _ _ _ _ ?_).trans ?_) | (with_reducible refine (drew_heap' _ _).trans ?_) | exact hk)))
    · (repeat' (first | (with_reducible assumption) | (with_reducible exact Below.refl _ _) | (with_reducible refine below_drewN ?_ _) | (with_reducible refine Below.drew ?_) | (with_reducible refine Below.alloc ?_ ?_ _) | (with_reducible refine Below.setCell ?_ ?_ _) | (with_reducible refine Below.trans ?_ (Below.mono (by assumption) ?_)) | (with_reducible exact Nat.le_refl _) | (with_reducible assumption) | omega | (simp; omega) | (simp; done)))
end Go.Proofs.Ytimpgbifnijkkaa
