/- impl.poly.normal with a shift; NormalOf of the program; the walk of its law. -/
import Derived.Test.YtimpgbifnijkkaaLZ
import Derived.Test.YtimpgbifnijkkaaLY
import Derived.Deep.RegionHeld3
namespace Go.Proofs.Ytimpgbifnijkkaa
open Go.RowKit
set_option maxHeartbeats 100000000 in
set_option maxRecDepth 100000 in
/-- impl.poly.normal, with a shift. -/
theorem normE1 (m n g cap : Nat) (f : Nat → Int) (w : World) (h : isSz (m : Int) = true) (hg : g < w.heap.size) (he : Els w g (m : Int) f n) (L : Lead m f n) (hd : ¬ ((n - 1 : Nat) : Int) % pr m = 0) :
    Calls Try.prog 65 #[polyE (m : Int) (.slice (some ⟨g, 0, none⟩) n cap)] w fun e w' => ∃ g' k cap' f', e = .returned (polyE (m : Int) (.slice (some ⟨g', 0, none⟩) k cap')) ∧ g' < w'.heap.size ∧ Els w' g' (m : Int) f' k ∧ (∀ i, El (m : Int) (f' i)) ∧ k ≤ m ∧ fl f' k = nml m n f ∧ Below w.heap.size w w' := by
  have hq := isSz_le (m : Int) h
  have hpr := pr_bd (m : Int) h
  have h2 := L.two
  have hle := L.le
  have HDEG := Lib.hid (fun w => degreeE (m : Int) g n cap w (by omega))
  obtain ⟨hL, _, _⟩ := scale_lead h L
  have hSC : ∀ w', Els w' g (m : Int) f n → g < w'.heap.size → Calls Try.prog 108 #[polyE (m : Int) (.slice (some ⟨g, 0, none⟩) n cap)] w' fun e w'' => ∃ g' cap', e = .returned (polyE (m : Int) (.slice (some ⟨g', 0, none⟩) n cap')) ∧ g' < w''.heap.size ∧ Els w'' g' (m : Int) (mon1 m n f) n ∧ Below w'.heap.size w' w'' := fun w' he hg =>
    (monicE m n g cap f w' h hg he L.el (by omega) hle L.top).mono fun _ _ ⟨g', c', h1, _, h2, h3, h4⟩ => ⟨g', c', h1, h2, h3, h4⟩
  have HSC := Lib.hid hSC; clear hSC
  have hnm : nml m n f = fl (upd (nmlS m n (mon1 m n f)).1 0 0) (nmlS m n (mon1 m n f)).2 := rfl
  change Lead m (mon1 m n f) n at hL
  rw [hnm]
  generalize mon1 m n f = G at *
  have hLS := nmlS_lead h hL
  clear hnm
  have hdne : ((((n - 1 : Nat) : Int) % pr (m : Int)) != 0) = true := by simpa using hd
  have hSS : nmlS m n G = cmp m G n (sft (nmlB m n G)) 2 n := by unfold nmlS; rw [if_neg hd]
  obtain ⟨s1, s2⟩ := shift_same h hL (nmlB_el h hL.el)
  rw [← hSS] at s1 s2
  have hSH : ∀ g cp w', Els w' g (m : Int) G n → g < w'.heap.size → Calls Try.prog 58 #[polyE (m : Int) (.slice (some ⟨g, 0, none⟩) n cp), elE (m : Int) (nmlB m n G)] w' fun e w'' => ∃ g' cap', e = .returned (polyE (m : Int) (.slice (some ⟨g', 0, none⟩) (nmlS m n G).2 cap')) ∧ g' < w''.heap.size ∧ Els w'' g' (m : Int) (nmlS m n G).1 (nmlS m n G).2 ∧ Below w'.heap.size w' w'' := fun g cp w' he hg => by
    have := shiftedE m n (nmlB m n G) (.slice (some ⟨g, 0, none⟩) n cp) G w' h ⟨g, cp, rfl, hg, he⟩ hL.el (nmlB_el h hL.el) (by omega)
    rw [s1, s2] at this
    exact this
  have HSH := Lib.hid hSH; clear hSH
  have HNG := Lib.hid (fun w => negE (m : Int) (G (n - 2)) w h (hL.el _).1 (hL.el _).2)
  have HON := Lib.hid (fun w => oneE (m : Int) w h)
  have HSL := Lib.hid (fun w => sclE (m : Int) (n - 1) w h (by omega))
  have hIV : ∀ w, Calls Try.prog 111 #[elE (m : Int) (mny m (n - 1))] w fun e w' => e = .returned (elE (m : Int) (invF m (mny m (n - 1)))) ∧ Below w.heap.size w w' := fun w => inverseE (m : Int) (mny m (n - 1)) w h (mny_el h _).1 (mny_el h _).2
  have HIV := Lib.hid hIV; clear hIV
  have hTB : ∀ w, Calls Try.prog 109 #[elE (m : Int) (subF m 0 (G (n - 2))), elE (m : Int) (invF m (mny m (n - 1)))] w fun e w' => e = .returned (elE (m : Int) (nmlB m n G)) ∧ Below w.heap.size w w' := fun w => timesE (m : Int) (subF m 0 (G (n - 2))) (invF m (mny m (n - 1))) w h ((hL.el _).neg h).1 ((hL.el _).neg h).2 ((mny_el h _).inv h).1 ((mny_el h _).inv h).2
  have HTB := Lib.hid hTB; clear hTB s1 s2 hSS
  generalize nmlS m n G = S at *
  generalize nmlB m n G = bb at *
  generalize invF m (mny m (n - 1)) = x3 at *
  generalize mny m (n - 1) = x2 at *
  generalize subF m 0 (G (n - 2)) = x1 at *
  have HNEG := Lib.hid (fun w => negE (m : Int) (S.1 0) w h (hLS.el _).1 (hLS.el _).2)
  have HPE := Lib.hid (fun v1 w' (h1 : Se w' v1 (m : Int) S.1 S.2) => plusElementE m S.2 (subF m 0 (S.1 0)) v1 S.1 w' h h1 hLS.el hLS.le hLS.past ((hLS.el 0).neg h))
  have HN0 := Lib.hid (nrm0 h hLS)
  have HRE : Hid (∀ i, El (m : Int) (redR m (pls m S.1 (redR m (fun _ => subF m 0 (S.1 0)) 1)) m i)) := Lib.hid fun i => redR_el m _ h (fun i => pls_el h hLS.el (fun i => redR_el m _ h (fun _ => (hLS.el 0).neg h) _ _) i) _ _
  have HRN : Hid (redn m (pls m S.1 (redR m (fun _ => subF m 0 (S.1 0)) 1)) m ≤ m) := Lib.hid (sn_le _ _)
  have hS2 := hLS.two
  have hSl := hLS.le
  generalize redR m (pls m S.1 (redR m (fun _ => subF m 0 (S.1 0)) 1)) m = RR at *
  generalize redn m (pls m S.1 (redR m (fun _ => subF m 0 (S.1 0)) 1)) m = RK at *
  generalize subF m 0 (S.1 0) = cc at *
  obtain ⟨S, k⟩ := S
  simp only at *
  have hz1 : ((n : Int) - 1) = ((n - 1 : Nat) : Int) := by omega
  clear hL hLS h L
  have HE := Lib.hid he; clear he
  go_enter Try.func65, Try.ntmps65
  go_wp2_with fail
  refine (HDEG.out _).mono ?_
  rintro e w1 ⟨rfl, hb1⟩
  have hnm1 : NM w w1 m f n g cap := by
    obtain ⟨t0, t1⟩ := two w (pblk (m : Int) (.slice (some ⟨g, 0, none⟩) n cap)) pzblk
    have hb' : Below (w.heap.size + 2) ((w.alloc (pblk (m : Int) (.slice (some ⟨g, 0, none⟩) n cap))).alloc pzblk) w1 := hb1.mono (by simp)
    have hz := hb'.size
    simp at hz
    exact ⟨(hb'.block _ (by omega)).trans t0, (hb'.block _ (by omega)).trans t1, HE.out.below (B := w.heap.size) (by (repeat' (first | (with_reducible assumption) | (with_reducible exact Below.refl _ _) | (with_reducible refine below_drewN ?_ _) | (with_reducible refine Below.drew ?_) | (with_reducible refine Below.alloc ?_ ?_ _) | (with_reducible refine Below.setCell ?_ ?_ _) | (with_reducible refine Below.trans ?_ (Below.mono (by assumption) ?_)) | (with_reducible exact Nat.le_refl _) | (with_reducible assumption) | omega | (simp; omega) | (simp; done)))) hg, by omega, by (repeat' (first | (with_reducible assumption) | (with_reducible exact Below.refl _ _) | (with_reducible refine below_drewN ?_ _) | (with_reducible refine Below.drew ?_) | (with_reducible refine Below.alloc ?_ ?_ _) | (with_reducible refine Below.setCell ?_ ?_ _) | (with_reducible refine Below.trans ?_ (Below.mono (by assumption) ?_)) | (with_reducible exact Nat.le_refl _) | (with_reducible assumption) | omega | (simp; omega) | (simp; done)))⟩
  have HN1 := Lib.hid hnm1
  obtain ⟨p0, p1, p2, p3, pf, pl0⟩ := cells4 hnm1.hp
  have hzw1 := hnm1.bel.size
  clear hb1 hnm1
  rw [hz1]
  go_wp2_with fail
  refine (HSC.out _ HN1.out.he HN1.out.lt).mono ?_
  rintro e w3 ⟨g3, cp3, rfl, hg3, he3, hb3⟩
  have hN3 : NM w ((((w3.setCell ⟨w.heap.size, 0, none⟩ (.int .i64 m)).setCell ⟨w.heap.size, 1, none⟩ (.int .i64 (pr m))).setCell ⟨w.heap.size, 2, none⟩ (.int .i64 (pl m))).setCell ⟨w.heap.size, 3, none⟩ (.slice (some ⟨g3, 0, none⟩) n cp3)) m G n g3 cp3 := HN1.out.store hb3 (Nat.le_refl _) hg3 he3
  obtain ⟨q0, q1, q2, q3, qf, ql0⟩ := cells4 (HN1.out.below hb3 (Nat.le_refl _)).hp
  have hgne : g3 ≠ w.heap.size := nm_ne hN3 (by omega)
  have hy := he3 0 (by omega)
  simp only [Nat.zero_mul, Nat.zero_add] at hy
  obtain ⟨y0, y1, y2, y3, y4, y5, y6⟩ := hy
  have hz3 := hb3.size
  have HNS := Lib.hid hN3
  clear hN3 he3 hb3 p0 p1 p2 p3 pf
  go_wp2_with fail
  obtain ⟨W3, hW⟩ : ∃ W, W = ((((w3.setCell ⟨w.heap.size, 0, none⟩ (.int .i64 m)).setCell ⟨w.heap.size, 1, none⟩ (.int .i64 (pr m))).setCell ⟨w.heap.size, 2, none⟩ (.int .i64 (pl m))).setCell ⟨w.heap.size, 3, none⟩ (.slice (some ⟨g3, 0, none⟩) n cp3)) := ⟨_, rfl⟩
  have hN3 : NM w W3 m G n g3 cp3 := by rw [hW]; exact HNS.out
  rw [← hW]
  clear hW q0 q1 q2 q3 qf ql0 hgne y0 y1 y2 y3 y4 y5 y6 hg3 hz3 HNS
  obtain ⟨p0, p1, p2, p3, pf, pl0⟩ := cells4 hN3.hp
  have hz3 := hN3.bel.size
  have hg3l := hN3.lt
  have HN3 := Lib.hid hN3
  clear hN3
  have hz2 : ((n - 1 : Nat) : Int) - 1 = ((n - 2 : Nat) : Int) := by omega
  have hwr : IntKind.i64.wrap ((n - 2 : Nat) : Int) = ((n - 2 : Nat) : Int) := by rw [IntKind.wrap_i64]; omega
  have hwr1 : IntKind.i64.wrap (((n - 1 : Nat) : Int) - 1) = ((n - 2 : Nat) : Int) := by rw [IntKind.wrap_i64]; omega
  have hi0 : (0 : Int) ≤ ((n - 2 : Nat) : Int) := by omega
  have hi1 : ((n - 2 : Nat) : Int) < (n : Int) := by omega
  have HKEEP4 : Hid (∀ w', Below W3.heap.size W3 w' → w'.cell? ⟨w.heap.size, 0, none⟩ = some (.int .i64 m) ∧ w'.cell? ⟨w.heap.size, 1, none⟩ = some (.int .i64 (pr m)) ∧ w'.cell? ⟨w.heap.size, 2, none⟩ = some (.int .i64 (pl m)) ∧ w'.cell? ⟨w.heap.size, 3, none⟩ = some (.slice (some ⟨g3, 0, none⟩) n cp3) ∧ w'.cell? ⟨g3, (n - 2) * 7, none⟩ = some (.int .i64 m) ∧ w'.cell? ⟨g3, (n - 2) * 7 + 1, none⟩ = some (.int .i64 (pr m)) ∧ w'.cell? ⟨g3, (n - 2) * 7 + 2, none⟩ = some (.int .i64 (pl m)) ∧ w'.cell? ⟨g3, (n - 2) * 7 + 3, none⟩ = some (.int .i64 (dg m (G (n - 2)) 0)) ∧ w'.cell? ⟨g3, (n - 2) * 7 + 4, none⟩ = some (.int .i64 (dg m (G (n - 2)) 1)) ∧ w'.cell? ⟨g3, (n - 2) * 7 + 5, none⟩ = some (.int .i64 (dg m (G (n - 2)) 2)) ∧ w'.cell? ⟨g3, (n - 2) * 7 + 6, none⟩ = some (.int .i64 (dg m (G (n - 2)) 3))) := Lib.hid fun w' hb => by
    obtain ⟨x0, x1, x2, x3, _⟩ := cells4 ((hb.block _ pl0).trans HN3.out.hp)
    obtain ⟨y0, y1, y2, y3, y4, y5, y6⟩ := (HN3.out.he.same (hb.block _ hg3l)) (n - 2) (by omega)
    exact ⟨x0, x1, x2, x3, y0, y1, y2, y3, y4, y5, y6⟩
  clear p0 p1 p2 p3 pf
  refine region_cut (fun a a' w' => ∃ (B4 : Nat) (u22 u23 u24 u25 u26 u27 u28 u29 u30 u31 u32 u33 u34 u35 : Value), a' = (((((((((((((((a.put (some 4) (.pointer (some ⟨B4, 0, none⟩))).put (some 15) u22).put (some 16) u23).put (some 17) u24).put (some 18) u25).put (some 19) u26).put (some 20) u27).put (some 21) u28).put (some 22) u29).put (some 23) u30).put (some 24) u31).put (some 25) u32).put (some 26) u33).put (some 27) u34).put (some 28) u35) ∧ w'.heap[B4]? = some (eblk m bb) ∧ NM w w' m G n g3 cp3) ?_ ?_
  · intro KC hKC
    have HKC := Lib.hid hKC
    clear hKC
    go_region_held3 (fun w' => w'.cell? ⟨w.heap.size, 0, none⟩ = some (.int .i64 m) ∧ w'.cell? ⟨w.heap.size, 1, none⟩ = some (.int .i64 (pr m)) ∧ w'.cell? ⟨w.heap.size, 2, none⟩ = some (.int .i64 (pl m)) ∧ w'.cell? ⟨w.heap.size, 3, none⟩ = some (.slice (some ⟨g3, 0, none⟩) n cp3) ∧ w'.cell? ⟨g3, (n - 2) * 7, none⟩ = some (.int .i64 m) ∧ w'.cell? ⟨g3, (n - 2) * 7 + 1, none⟩ = some (.int .i64 (pr m)) ∧ w'.cell? ⟨g3, (n - 2) * 7 + 2, none⟩ = some (.int .i64 (pl m)) ∧ w'.cell? ⟨g3, (n - 2) * 7 + 3, none⟩ = some (.int .i64 (dg m (G (n - 2)) 0)) ∧ w'.cell? ⟨g3, (n - 2) * 7 + 4, none⟩ = some (.int .i64 (dg m (G (n - 2)) 1)) ∧ w'.cell? ⟨g3, (n - 2) * 7 + 5, none⟩ = some (.int .i64 (dg m (G (n - 2)) 2)) ∧ w'.cell? ⟨g3, (n - 2) * 7 + 6, none⟩ = some (.int .i64 (dg m (G (n - 2)) 3)))
      ((refine HKEEP4.out _ ?_; (try have hb28 := HB28.out); (try have hb31 := HB31.out); (try have hb33 := HB33.out); (try have hb34 := HB34.out); (try have hb35 := HB35.out); (repeat' (first | (with_reducible assumption) | (with_reducible exact Below.refl _ _) | (with_reducible refine below_drewN ?_ _) | (with_reducible refine Below.drew ?_) | (with_reducible refine Below.alloc ?_ ?_ _) | (with_reducible refine Below.setCell ?_ ?_ _) | (with_reducible refine Below.trans ?_ (Below.mono (by assumption) ?_)) | (with_reducible exact Nat.le_refl _) | (with_reducible assumption) | omega | (simp; omega) | (simp; done)))))
      (first
      | (go_at_call 99; refine (HNG.out _).mono ?_; rintro e w28 ⟨rfl, hb28⟩; obtain ⟨hc28, hf28⟩ := bcell hb28; (try simp only [World.size_drew] at hc28 hf28); have hz28 := hb28.size; (try simp at hz28); have HB28 := Lib.hid hb28; clear hb28; (try have l28_W3 : W3.heap.size < w28.heap.size := (by omega)); (try have l28_w31 : w31.heap.size < w28.heap.size := (by omega)); (try have l28_w33 : w33.heap.size < w28.heap.size := (by omega)); (try have l28_w34 : w34.heap.size < w28.heap.size := (by omega)))
      | (go_at_call 78; refine (HON.out _).mono ?_; rintro e w31 ⟨rfl, hb31⟩; obtain ⟨hc31, hf31⟩ := bcell hb31; (try simp only [World.size_drew] at hc31 hf31); have hz31 := hb31.size; (try simp at hz31); have HB31 := Lib.hid hb31; clear hb31; (try have l31_W3 : W3.heap.size < w31.heap.size := (by omega)); (try have l31_w28 : w28.heap.size < w31.heap.size := (by omega)))
      | (go_at_call 110; refine (HSL.out _).mono ?_; rintro e w33 ⟨rfl, hb33⟩; obtain ⟨hc33, hf33⟩ := bcell hb33; (try simp only [World.size_drew] at hc33 hf33); have hz33 := hb33.size; (try simp at hz33); have HB33 := Lib.hid hb33; clear hb33; (try have l33_W3 : W3.heap.size < w33.heap.size := (by omega)); (try have l33_w28 : w28.heap.size < w33.heap.size := (by omega)); (try have l33_w31 : w31.heap.size < w33.heap.size := (by omega)))
      | (go_at_call 111; refine (HIV.out _).mono ?_; rintro e w34 ⟨rfl, hb34⟩; obtain ⟨hc34, hf34⟩ := bcell hb34; (try simp only [World.size_drew] at hc34 hf34); have hz34 := hb34.size; (try simp at hz34); have HB34 := Lib.hid hb34; clear hb34; (try have l34_W3 : W3.heap.size < w34.heap.size := (by omega)); (try have l34_w28 : w28.heap.size < w34.heap.size := (by omega)); (try have l34_w31 : w31.heap.size < w34.heap.size := (by omega)); (try have l34_w33 : w33.heap.size < w34.heap.size := (by omega)))
      | (go_at_call 109; refine (HTB.out _).mono ?_; rintro e w35 ⟨rfl, hb35⟩; obtain ⟨hc35, hf35⟩ := bcell hb35; (try simp only [World.size_drew] at hc35 hf35); have hz35 := hb35.size; (try simp at hz35); have HB35 := Lib.hid hb35; clear hb35; (try have l35_W3 : W3.heap.size < w35.heap.size := (by omega)); (try have l35_w28 : w28.heap.size < w35.heap.size := (by omega)); (try have l35_w31 : w31.heap.size < w35.heap.size := (by omega)); (try have l35_w33 : w33.heap.size < w35.heap.size := (by omega)); (try have l35_w34 : w34.heap.size < w35.heap.size := (by omega))))
    all_goals
      have hb28 := HB28.out
      have hb31 := HB31.out
      have hb33 := HB33.out
      have hb34 := HB34.out
      have hb35 := HB35.out
      refine HKC.out _ _ ?_
      simp only [Act.put, List.setIfInBounds_toArray, List.set_cons_zero, List.set_cons_succ]
      refine ⟨_, _, _, _, _, _, _, _, _, _, _, _, _, _, _, rfl, ?_, HN3.out.below (B := W3.heap.size) (by (repeat' (first | (with_reducible assumption) | (with_reducible exact Below.refl _ _) | (with_reducible refine below_drewN ?_ _) | (with_reducible refine Below.drew ?_) | (with_reducible refine Below.alloc ?_ ?_ _) | (with_reducible refine Below.setCell ?_ ?_ _) | (with_reducible refine Below.trans ?_ (Below.mono (by assumption) ?_)) | (with_reducible exact Nat.le_refl _) | (with_reducible assumption) | omega | (simp; omega) | (simp; done)))) (Nat.le_refl _)⟩
      first
      | with_reducible exact heap_alloc_new _ _
      | (refine put7_same _ _ _ _ (.int .i64 0) (.int .i64 0) (.int .i64 0) (.int .i64 0) (.int .i64 0) (.int .i64 0) (.int .i64 0) ?_
         repeat' (first
           | with_reducible exact heap_alloc_new _ _
           | with_reducible refine (hb35.block _ ?_).trans ?_
           | with_reducible refine (hb34.block _ ?_).trans ?_
           | with_reducible refine (hb33.block _ ?_).trans ?_
           | with_reducible refine (hb31.block _ ?_).trans ?_
           | with_reducible refine (hb28.block _ ?_).trans ?_
           | omega
           | (simp; omega)
           | (simp; done)
           | exact heap_alloc_new W3.drew _))
  · clear pl0 hwr hwr1 hi0 hi1 HKEEP4
    rintro _ W4 ⟨B4, u22, u23, u24, u25, u26, u27, u28, u29, u30, u31, u32, u33, u34, u35, rfl, hb4, hN4⟩
    simp only [Act.put, List.setIfInBounds_toArray, List.set_cons_zero, List.set_cons_succ]
    obtain ⟨p0, p1, p2, p3, pf, pl0⟩ := cells4 hN4.hp
    obtain ⟨b0, b1, b2, b3, b4, b5, b6, bf, bl⟩ := seven hb4
    have hz4 := hN4.bel.size
    have HN4 := Lib.hid hN4
    clear hN4 hb4
    go_wp2_with fail
    refine (HSH.out g3 cp3 _ HN4.out.he HN4.out.lt).mono ?_
    rintro e w5 ⟨g5, cp5, rfl, hg5, he5, hb5⟩
    have hNW : NM w (put4 w5 w.heap.size m (.slice (some ⟨g5, 0, none⟩) k cp5)) m S k g5 cp5 := HN4.out.store hb5 (Nat.le_refl _) hg5 he5
    obtain ⟨q0, q1, q2, q3, qf, ql0⟩ := cells4 (HN4.out.below hb5 (Nat.le_refl _)).hp
    have hne : g5 ≠ w.heap.size := nm_ne hNW (by omega)
    have hy := he5 0 (by omega)
    simp only [Nat.zero_mul, Nat.zero_add] at hy
    obtain ⟨y0, y1, y2, y3, y4, y5, y6⟩ := hy
    have hz5 := hb5.size
    have HNW := Lib.hid hNW
    clear hNW he5 hb5 p0 p1 p2 p3 pf b0 b1 b2 b3 b4 b5 b6 bf
    go_wp2_with fail
    obtain ⟨W5, hW⟩ : ∃ W, W = ((((w5.setCell ⟨w.heap.size, 0, none⟩ (.int .i64 m)).setCell ⟨w.heap.size, 1, none⟩ (.int .i64 (pr m))).setCell ⟨w.heap.size, 2, none⟩ (.int .i64 (pl m))).setCell ⟨w.heap.size, 3, none⟩ (.slice (some ⟨g5, 0, none⟩) k cp5)) := ⟨_, rfl⟩
    have hN5 : NM w W5 m S k g5 cp5 := by rw [hW]; exact HNW.out
    rw [← hW]
    clear hW q0 q1 q2 q3 qf ql0 hne y0 y1 y2 y3 y4 y5 y6 hg5 hz5 HNW
    have hzW := hN5.bel.size
    have hgW := hN5.lt
    have HNW := Lib.hid hN5
    clear hN5
    have hn0 : (0 : Int) < (k : Int) := by omega
    have hn1 : 0 < k := by omega
    have hrl : w.heap.size + 1 < W5.heap.size := (Array.getElem?_eq_some_iff.1 HNW.out.hr).1
    have HKEEP : Hid (∀ w', Below W5.heap.size W5 w' → w'.cell? ⟨w.heap.size, 0, none⟩ = some (.int .i64 m) ∧ w'.cell? ⟨w.heap.size, 1, none⟩ = some (.int .i64 (pr m)) ∧ w'.cell? ⟨w.heap.size, 2, none⟩ = some (.int .i64 (pl m)) ∧ w'.cell? ⟨w.heap.size, 3, none⟩ = some (.slice (some ⟨g5, 0, none⟩) k cp5) ∧ w'.cell? ⟨g5, 0, none⟩ = some (.int .i64 m) ∧ w'.cell? ⟨g5, 1, none⟩ = some (.int .i64 (pr m)) ∧ w'.cell? ⟨g5, 2, none⟩ = some (.int .i64 (pl m)) ∧ w'.cell? ⟨g5, 3, none⟩ = some (.int .i64 (dg m (S 0) 0)) ∧ w'.cell? ⟨g5, 4, none⟩ = some (.int .i64 (dg m (S 0) 1)) ∧ w'.cell? ⟨g5, 5, none⟩ = some (.int .i64 (dg m (S 0) 2)) ∧ w'.cell? ⟨g5, 6, none⟩ = some (.int .i64 (dg m (S 0) 3))) := Lib.hid fun w' hb => by
      have hN := HNW.out.below hb (Nat.le_refl _)
      obtain ⟨x0, x1, x2, x3, _⟩ := cells4 hN.hp
      have hy := hN.he 0 (by omega)
      simp only [Nat.zero_mul, Nat.zero_add] at hy
      obtain ⟨y0, y1, y2, y3, y4, y5, y6⟩ := hy
      exact ⟨x0, x1, x2, x3, y0, y1, y2, y3, y4, y5, y6⟩
    obtain ⟨q0, q1, q2, q3, qf, ql⟩ := cells4 HNW.out.hr
    have hgr : g5 ≠ w.heap.size + 1 := fun e => by
      have h1 := (HNW.out.he 0 (by omega)).2.2.2.1
      simp only [Nat.zero_mul, Nat.zero_add] at h1
      rw [e, (cells4 HNW.out.hr).2.2.2.1] at h1
      simp at h1
    have HKEEPS : Hid (∀ (w' : World) (a1 a2 a3 a4 : Value), Below W5.heap.size W5 w' → ((((w'.setCell ⟨w.heap.size + 1, 0, none⟩ a1).setCell ⟨w.heap.size + 1, 1, none⟩ a2).setCell ⟨w.heap.size + 1, 2, none⟩ a3).setCell ⟨w.heap.size + 1, 3, none⟩ a4).cell? ⟨w.heap.size, 0, none⟩ = some (.int .i64 m) ∧ ((((w'.setCell ⟨w.heap.size + 1, 0, none⟩ a1).setCell ⟨w.heap.size + 1, 1, none⟩ a2).setCell ⟨w.heap.size + 1, 2, none⟩ a3).setCell ⟨w.heap.size + 1, 3, none⟩ a4).cell? ⟨w.heap.size, 1, none⟩ = some (.int .i64 (pr m)) ∧ ((((w'.setCell ⟨w.heap.size + 1, 0, none⟩ a1).setCell ⟨w.heap.size + 1, 1, none⟩ a2).setCell ⟨w.heap.size + 1, 2, none⟩ a3).setCell ⟨w.heap.size + 1, 3, none⟩ a4).cell? ⟨w.heap.size, 2, none⟩ = some (.int .i64 (pl m)) ∧ ((((w'.setCell ⟨w.heap.size + 1, 0, none⟩ a1).setCell ⟨w.heap.size + 1, 1, none⟩ a2).setCell ⟨w.heap.size + 1, 2, none⟩ a3).setCell ⟨w.heap.size + 1, 3, none⟩ a4).cell? ⟨w.heap.size, 3, none⟩ = some (.slice (some ⟨g5, 0, none⟩) k cp5) ∧ ((((w'.setCell ⟨w.heap.size + 1, 0, none⟩ a1).setCell ⟨w.heap.size + 1, 1, none⟩ a2).setCell ⟨w.heap.size + 1, 2, none⟩ a3).setCell ⟨w.heap.size + 1, 3, none⟩ a4).cell? ⟨g5, 0, none⟩ = some (.int .i64 m) ∧ ((((w'.setCell ⟨w.heap.size + 1, 0, none⟩ a1).setCell ⟨w.heap.size + 1, 1, none⟩ a2).setCell ⟨w.heap.size + 1, 2, none⟩ a3).setCell ⟨w.heap.size + 1, 3, none⟩ a4).cell? ⟨g5, 1, none⟩ = some (.int .i64 (pr m)) ∧ ((((w'.setCell ⟨w.heap.size + 1, 0, none⟩ a1).setCell ⟨w.heap.size + 1, 1, none⟩ a2).setCell ⟨w.heap.size + 1, 2, none⟩ a3).setCell ⟨w.heap.size + 1, 3, none⟩ a4).cell? ⟨g5, 2, none⟩ = some (.int .i64 (pl m)) ∧ ((((w'.setCell ⟨w.heap.size + 1, 0, none⟩ a1).setCell ⟨w.heap.size + 1, 1, none⟩ a2).setCell ⟨w.heap.size + 1, 2, none⟩ a3).setCell ⟨w.heap.size + 1, 3, none⟩ a4).cell? ⟨g5, 3, none⟩ = some (.int .i64 (dg m (S 0) 0)) ∧ ((((w'.setCell ⟨w.heap.size + 1, 0, none⟩ a1).setCell ⟨w.heap.size + 1, 1, none⟩ a2).setCell ⟨w.heap.size + 1, 2, none⟩ a3).setCell ⟨w.heap.size + 1, 3, none⟩ a4).cell? ⟨g5, 4, none⟩ = some (.int .i64 (dg m (S 0) 1)) ∧ ((((w'.setCell ⟨w.heap.size + 1, 0, none⟩ a1).setCell ⟨w.heap.size + 1, 1, none⟩ a2).setCell ⟨w.heap.size + 1, 2, none⟩ a3).setCell ⟨w.heap.size + 1, 3, none⟩ a4).cell? ⟨g5, 5, none⟩ = some (.int .i64 (dg m (S 0) 2)) ∧ ((((w'.setCell ⟨w.heap.size + 1, 0, none⟩ a1).setCell ⟨w.heap.size + 1, 1, none⟩ a2).setCell ⟨w.heap.size + 1, 2, none⟩ a3).setCell ⟨w.heap.size + 1, 3, none⟩ a4).cell? ⟨g5, 6, none⟩ = some (.int .i64 (dg m (S 0) 3))) := Lib.hid fun w' a1 a2 a3 a4 hb => by
      have hN := HNW.out.below hb (Nat.le_refl _)
      have e1 : ((((w'.setCell ⟨w.heap.size + 1, 0, none⟩ a1).setCell ⟨w.heap.size + 1, 1, none⟩ a2).setCell ⟨w.heap.size + 1, 2, none⟩ a3).setCell ⟨w.heap.size + 1, 3, none⟩ a4).heap[w.heap.size]? = w'.heap[w.heap.size]? := (heap_setCell_other _ _ _ _ (by show w.heap.size ≠ w.heap.size + 1; omega)).trans ((heap_setCell_other _ _ _ _ (by show w.heap.size ≠ w.heap.size + 1; omega)).trans ((heap_setCell_other _ _ _ _ (by show w.heap.size ≠ w.heap.size + 1; omega)).trans (heap_setCell_other _ _ _ _ (by show w.heap.size ≠ w.heap.size + 1; omega))))
      have e2 : ((((w'.setCell ⟨w.heap.size + 1, 0, none⟩ a1).setCell ⟨w.heap.size + 1, 1, none⟩ a2).setCell ⟨w.heap.size + 1, 2, none⟩ a3).setCell ⟨w.heap.size + 1, 3, none⟩ a4).heap[g5]? = w'.heap[g5]? := (heap_setCell_other _ _ _ _ hgr).trans ((heap_setCell_other _ _ _ _ hgr).trans ((heap_setCell_other _ _ _ _ hgr).trans (heap_setCell_other _ _ _ _ hgr)))
      obtain ⟨x0, x1, x2, x3, _⟩ := cells4 (e1.trans hN.hp)
      have hy := (hN.he.same e2) 0 (by omega)
      simp only [Nat.zero_mul, Nat.zero_add] at hy
      obtain ⟨y0, y1, y2, y3, y4, y5, y6⟩ := hy
      exact ⟨x0, x1, x2, x3, y0, y1, y2, y3, y4, y5, y6⟩
    go_region_held3 (fun w' => w'.cell? ⟨w.heap.size, 0, none⟩ = some (.int .i64 m) ∧ w'.cell? ⟨w.heap.size, 1, none⟩ = some (.int .i64 (pr m)) ∧ w'.cell? ⟨w.heap.size, 2, none⟩ = some (.int .i64 (pl m)) ∧ w'.cell? ⟨w.heap.size, 3, none⟩ = some (.slice (some ⟨g5, 0, none⟩) k cp5) ∧ w'.cell? ⟨g5, 0, none⟩ = some (.int .i64 m) ∧ w'.cell? ⟨g5, 1, none⟩ = some (.int .i64 (pr m)) ∧ w'.cell? ⟨g5, 2, none⟩ = some (.int .i64 (pl m)) ∧ w'.cell? ⟨g5, 3, none⟩ = some (.int .i64 (dg m (S 0) 0)) ∧ w'.cell? ⟨g5, 4, none⟩ = some (.int .i64 (dg m (S 0) 1)) ∧ w'.cell? ⟨g5, 5, none⟩ = some (.int .i64 (dg m (S 0) 2)) ∧ w'.cell? ⟨g5, 6, none⟩ = some (.int .i64 (dg m (S 0) 3)))
      (first
      | (refine HKEEP.out _ ?_; (try have hb15 := HB15.out); (try have hb17 := HB17.out); (repeat' (first | (with_reducible assumption) | (with_reducible exact Below.refl _ _) | (with_reducible refine below_drewN ?_ _) | (with_reducible refine Below.drew ?_) | (with_reducible refine Below.alloc ?_ ?_ _) | (with_reducible refine Below.setCell ?_ ?_ _) | (with_reducible refine Below.trans ?_ (Below.mono (by assumption) ?_)) | (with_reducible exact Nat.le_refl _) | (with_reducible assumption) | omega | (simp; omega) | (simp; done))); done)
      | (refine HKEEPS.out w17 _ _ _ _ ?_; have hb15 := HB15.out; have hb17 := HB17.out; (repeat' (first | (with_reducible assumption) | (with_reducible exact Below.refl _ _) | (with_reducible refine below_drewN ?_ _) | (with_reducible refine Below.drew ?_) | (with_reducible refine Below.alloc ?_ ?_ _) | (with_reducible refine Below.setCell ?_ ?_ _) | (with_reducible refine Below.trans ?_ (Below.mono (by assumption) ?_)) | (with_reducible exact Nat.le_refl _) | (with_reducible assumption) | omega | (simp; omega) | (simp; done))); done))
      (first
      | (go_at_call 99; refine (HNEG.out _).mono ?_; rintro e w15 ⟨rfl, hb15⟩; obtain ⟨hc15, hf15⟩ := bcell hb15; (try simp only [World.size_drew] at hc15 hf15); have hz15 := hb15.size; (try simp at hz15); have HB15 := Lib.hid hb15; clear hb15; have l15 : w.heap.size + 1 < w15.heap.size := (by omega))
      | (go_at_call 59; refine (HPE.out _ _ ⟨g5, cp5, rfl, by have := HNW.out.lt; omega, HNW.out.he.below (B := W5.heap.size) (by (try have hb15 := HB15.out); (repeat' (first | (with_reducible assumption) | (with_reducible exact Below.refl _ _) | (with_reducible refine below_drewN ?_ _) | (with_reducible refine Below.drew ?_) | (with_reducible refine Below.alloc ?_ ?_ _) | (with_reducible refine Below.setCell ?_ ?_ _) | (with_reducible refine Below.trans ?_ (Below.mono (by assumption) ?_)) | (with_reducible exact Nat.le_refl _) | (with_reducible assumption) | omega | (simp; omega) | (simp; done)))) HNW.out.lt⟩).mono ?_; rintro e w17 ⟨g17, cp17, rfl, hg17, he17, hb17⟩; have HE17 := Lib.hid he17; clear he17; obtain ⟨hc17, hf17⟩ := bcell hb17; (try simp only [World.size_drew] at hc17 hf17); have hz17 := hb17.size; (try simp at hz17); have HB17 := Lib.hid hb17; clear hb17; have l17 : w.heap.size + 1 < w17.heap.size := (by omega)))
    all_goals
      go_wp2_with fail
      have hN17 : NM w w17 m S k g5 cp5 := HNW.out.below (B := W5.heap.size) (by have hb15 := HB15.out; have hb17 := HB17.out; (repeat' (first | (with_reducible assumption) | (with_reducible exact Below.refl _ _) | (with_reducible refine below_drewN ?_ _) | (with_reducible refine Below.drew ?_) | (with_reducible refine Below.alloc ?_ ?_ _) | (with_reducible refine Below.setCell ?_ ?_ _) | (with_reducible refine Below.trans ?_ (Below.mono (by assumption) ?_)) | (with_reducible exact Nat.le_refl _) | (with_reducible assumption) | omega | (simp; omega) | (simp; done)))) (Nat.le_refl _)
      obtain ⟨r0, r1, r2, r3, rf, rl0⟩ := cells4 hN17.hr
      refine bodyPost_ret (v := polyE (m : Int) (.slice (some ⟨g17, 0, none⟩) RK cp17)) (by simp [results, Try.results65, go_sem, r0, r1, r2, r3]) rfl ⟨g17, RK, cp17, RR, rfl, by simp; omega, ?_, HRE.out, HRN.out, HN0.out, ?_⟩
      · exact HE17.out.over hN17.hr (by omega) (fun k hk => by (repeat' (first | (with_reducible rfl) | (with_reducible refine (heap_setCell_other _ _ _ _ ?_).trans ?_) | (with_reducible refine (drew_heap' _ _).trans ?_) | exact hk)))
      · have hb := hN17.bel
        (repeat' (first | (with_reducible assumption) | (with_reducible exact Below.refl _ _) | (with_reducible refine below_drewN ?_ _) | (with_reducible refine Below.drew ?_) | (with_reducible refine Below.alloc ?_ ?_ _) | (with_reducible refine Below.setCell ?_ ?_ _) | (with_reducible refine Below.trans ?_ (Below.mono (by assumption) ?_)) | (with_reducible exact Nat.le_refl _) | (with_reducible assumption) | omega | (simp; omega) | (simp; done)))
end Go.Proofs.Ytimpgbifnijkkaa
