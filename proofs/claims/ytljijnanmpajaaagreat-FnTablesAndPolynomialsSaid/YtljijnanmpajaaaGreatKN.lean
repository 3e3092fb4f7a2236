/- A bundle of texts: IA IF IH IL. -/
import Derived.Deep.RegionHeld3
import Derived.Test.YtljijnanmpajaaaGreatKM
import Derived.Test.YtljijnanmpajaaaGreatKJ
import Derived.Test.YtljijnanmpajaaaGreatKA
namespace Go.Proofs.YtljijnanmpajaaaGreat
open Go.RowKit
set_option maxHeartbeats 1000000 in
/-- impl.field.zeros. -/
theorem zerosE (q : Int) (N : Nat) (w : World) (h : isSz q = true) (hN : N ≤ 1000) :
    Calls Tryz.prog 166 #[fdE q, .int .i64 N] w fun e w' => ∃ g, e = .returned (.slice (some ⟨g, 0, none⟩) N N) ∧ w.heap.size ≤ g ∧ Blk w' g N ∧ Els w' g q (fun _ => 0) N ∧ Below w.heap.size w w' := by
  have HZ := Lib.hid (fun w => zeroE q w h)
  have HRP := Lib.hid (fun b cp w' (hb : b < w'.heap.size) (he : Els w' b q (fun _ => 0) 1) => repeatE q 0 b N cp w' hb he hN)
  have HONE : Hid (∀ (w1 w2 : World), w2 = w1.alloc (eblk q 0) → w1.heap.size < w2.heap.size ∧ Els w2 w1.heap.size q (fun _ => 0) 1) := Lib.hid fun w1 w2 hw => by
    subst hw
    obtain ⟨s0, s1, s2, s3, s4, s5, s6, _, hl⟩ := seven (heap_alloc_new w1 (eblk q 0))
    refine ⟨hl, fun j hj => ?_⟩
    obtain rfl : j = 0 := by omega
    exact ⟨s0, s1, s2, s3, s4, s5, s6⟩
  clear h
  go_enter Tryz.func166, Tryz.ntmps166
  go_wp2_with fail
  refine (HZ.out _).mono ?_
  rintro e w1 ⟨rfl, hb1⟩
  have hz_hb1 := hb1.size; (try simp at hz_hb1)
  have HB1 := Lib.hid hb1; clear hb1
  go_wp2_with fail
  refine (HRP.out _ _ _ (HONE.out w1 _ rfl).1 (HONE.out w1 _ rfl).2).mono ?_
  rintro e w2 ⟨g, rfl, hg, hk, he, hb2⟩
  simp at hg
  have HK := Lib.hid hk; clear hk
  have HE := Lib.hid he; clear he
  have HB2 := Lib.hid hb2; clear hb2
  go_wp2
  go_ret
  have hb1 := HB1.out
  have hb2 := HB2.out
  exact ⟨g, rfl, by omega, HK.out, HE.out, by (repeat' (first | (with_reducible assumption) | (with_reducible exact Below.refl _ _) | (with_reducible refine below_drewN ?_ _) | (with_reducible refine Below.drew ?_) | (with_reducible refine Below.alloc ?_ ?_ _) | (with_reducible refine Below.setCell ?_ ?_ _) | (with_reducible refine Below.trans ?_ (Below.mono (by assumption) ?_)) | (with_reducible exact Nat.le_refl _) | (with_reducible assumption) | omega | (simp; omega) | (simp; done)))⟩
/-- The memory of times. -/
structure TM (w0 wr : World) (q : Int) (v1 v2 : Value) (c : Nat → Int) (N g : Nat) : Prop where
  hp : wr.heap[w0.heap.size]? = some (pblk q v1)
  ho : wr.heap[w0.heap.size + 1]? = some (pblk q v2)
  hr : wr.heap[w0.heap.size + 2]? = some pzblk
  hk : Blk wr g N
  he : Els wr g q c N
  bel : Below w0.heap.size w0 wr
  lt : w0.heap.size + 2 < g
theorem TM.below {w0 wr w' : World} {q : Int} {v1 v2 : Value} {c : Nat → Int} {N g B : Nat} (h : TM w0 wr q v1 v2 c N g) (hb : Below B wr w') (hB : wr.heap.size ≤ B) : TM w0 w' q v1 v2 c N g := by
  have hg := h.hk.lt
  have hl := h.lt
  have hs := h.bel.size
  exact ⟨(hb.block _ (by omega)).trans h.hp, (hb.block _ (by omega)).trans h.ho, (hb.block _ (by omega)).trans h.hr, h.hk.below hb (by omega), h.he.below hb (by omega), h.bel.trans (hb.mono (by omega)), hl⟩
theorem TM.step {w0 wr : World} {q : Int} {v1 v2 : Value} {c : Nat → Int} {N g i : Nat} (h : TM w0 wr q v1 v2 c N g) (hi : i < N) (x : Int) : TM w0 (put7i wr g i q x) q v1 v2 (upd c i x) N g := by
  have hl := h.lt
  obtain ⟨he, hk⟩ := Els.put x h.hk hi (Nat.le_refl _) h.he
  exact ⟨(put7i_other _ _ _ _ _ _ (by omega)).trans h.hp, (put7i_other _ _ _ _ _ _ (by omega)).trans h.ho, (put7i_other _ _ _ _ _ _ (by omega)).trans h.hr, hk, he, put7i_below h.bel _ (by omega) _ _ _, hl⟩
theorem Els.over {w w' : World} {g R K : Nat} {q : Int} {f : Nat → Int} (he : Els w g q f K) (hR : w.heap[R]? = some pzblk) (hq : 2 ≤ q) (hw : ∀ k, k ≠ R → w'.heap[k]? = w.heap[k]?) : Els w' g q f K := by
  by_cases h0 : K = 0
  · subst h0
    exact fun j hj => by omega
  · refine he.same (hw g fun e => ?_)
    subst e
    have h1 := (he 0 (by omega)).1
    rw [Nat.zero_mul, (cells4 hR).1] at h1
    simp at h1
    omega
set_option maxRecDepth 100000 in
set_option maxHeartbeats 4000000 in
/-- impl.poly.times. -/
theorem timesPE (m n k : Nat) (v1 v2 : Value) (f g : Nat → Int) (w : World) (h : isSz (m : Int) = true) (hv1 : Se w v1 (m : Int) f n) (hv2 : Se w v2 (m : Int) g k) (hf : ∀ i, El (m : Int) (f i)) (hg : ∀ i, El (m : Int) (g i)) (hn : n ≤ 100) (hk : k ≤ 100) :
    Calls Tryz.prog 123 #[polyE (m : Int) v1, polyE (m : Int) v2] w fun e w' => ∃ g' cap, e = .returned (polyE (m : Int) (.slice (some ⟨g', 0, none⟩) (redn m (cou m f g k n) (n + k)) cap)) ∧ g' < w'.heap.size ∧ Els w' g' (m : Int) (redR m (cou m f g k n) (n + k)) (redn m (cou m f g k n) (n + k)) ∧ Below w.heap.size w w' := by
  have hq := isSz_le (m : Int) h
  have HZ := Lib.hid (fun w => zerosE (m : Int) (n + k) w h (by omega))
  have HT := Lib.hid (fun (i j : Nat) w => timesE (m : Int) (f i) (g j) w h (hf i).1 (hf i).2 (hg j).1 (hg j).2)
  have HCE : Hid (∀ i j x, El (m : Int) (cin m f g i (cou m f g k i) j x)) := Lib.hid fun i j x => cin_el h hf hg (cou_el h hf hg k i) i j x
  have HA := Lib.hid (fun (i j : Nat) w => plusE (m : Int) (cin m f g i (cou m f g k i) j (i + j)) (mulF m (f i) (g j)) w h (HCE.out i j _).1 (HCE.out i j _).2 ((hf i).mul h (hg j)).1 ((hf i).mul h (hg j)).2)
  have HRD := Lib.hid (fun v' w' (hs : Se w' v' (m : Int) (cou m f g k n) (n + k)) => reducedE m v' (cou m f g k n) (n + k) w' h hs (cou_el h hf hg k n) (by omega))
  obtain ⟨g1, cap1, rfl, hg1, he1⟩ := hv1
  obtain ⟨g2, cap2, rfl, hg2, he2⟩ := hv2
  have HE1 := Lib.hid (fun wr (hb : Below w.heap.size w wr) => he1.below hb hg1)
  have HE2 := Lib.hid (fun wr (hb : Below w.heap.size w wr) => he2.below hb hg2)
  clear hf hg h HCE he1 he2
  generalize hN : n + k = N at *
  have hN' : (n : Int) + (k : Int) = (N : Int) := by omega
  go_enter Tryz.func123, Tryz.ntmps123
  go_wp2_with fail
  refine (HZ.out _).mono ?_
  rintro e w1 ⟨gT, rfl, hgT, hk1, hz1, hb1⟩
  simp at hgT
  have htm : TM w w1 (m : Int) (.slice (some ⟨g1, 0, none⟩) n cap1) (.slice (some ⟨g2, 0, none⟩) k cap2) (cou m f g k 0) N gT := by
    have hb' : Below (w.heap.size + 3) (((w.alloc (pblk (m : Int) (.slice (some ⟨g1, 0, none⟩) n cap1))).alloc (pblk (m : Int) (.slice (some ⟨g2, 0, none⟩) k cap2))).alloc pzblk) w1 := hb1.mono (by simp)
    obtain ⟨t0, t1, t2⟩ := three w (pblk (m : Int) (.slice (some ⟨g1, 0, none⟩) n cap1)) (pblk (m : Int) (.slice (some ⟨g2, 0, none⟩) k cap2)) pzblk
    exact ⟨(hb'.block _ (by omega)).trans t0, (hb'.block _ (by omega)).trans t1, (hb'.block _ (by omega)).trans t2, hk1, hz1, by (repeat' (first | (with_reducible assumption) | (with_reducible exact Below.refl _ _) | (with_reducible refine below_drewN ?_ _) | (with_reducible refine Below.drew ?_) | (with_reducible refine Below.alloc ?_ ?_ _) | (with_reducible refine Below.setCell ?_ ?_ _) | (with_reducible refine Below.trans ?_ (Below.mono (by assumption) ?_)) | (with_reducible exact Nat.le_refl _) | (with_reducible assumption) | omega | (simp; omega) | (simp; done))), by omega⟩
  have HTM := Lib.hid htm
  clear htm hk1 hz1 hb1
  obtain ⟨p0, p1, p2, p3, pf, pl0⟩ := cells4 HTM.out.hp
  go_wp2_with fail
  clear p0 p1 p2 p3 pf pl0
  go_loopw [23] (fun vi wr => ∃ i : Nat, i ≤ n ∧ vi = .int .i64 i ∧ TM w wr (m : Int) (.slice (some ⟨g1, 0, none⟩) n cap1) (.slice (some ⟨g2, 0, none⟩) k cap2) (cou m f g k i) N gT) (fun vi _ => n - (intOf vi).toNat)
  case atStart => exact ⟨0, Nat.zero_le _, rfl, HTM.out⟩
  case round =>
    obtain ⟨i, hin, rfl, ht⟩ := hrel
    obtain ⟨p0, p1, p2, p3, pf, pl0⟩ := cells4 ht.hp
    obtain ⟨o0, o1, o2, o3, of, ol0⟩ := cells4 ht.ho
    obtain ⟨r0, r1, r2, r3, rf, rl0⟩ := cells4 ht.hr
    have hzb := ht.bel.size
    have hgl := ht.hk.lt
    have hgt := ht.lt
    by_cases hlt : i < n
    · obtain ⟨c0, c1, c2, c3, c4, c5, c6⟩ := (HE1.out _ ht.bel) i hlt
      have hg1l : g1 < wr.heap.size := by omega
      have HTT := Lib.hid ht; clear ht
      have HT' := Lib.hid (HT.out i)
      have HA' := Lib.hid (HA.out i)
      have HST : Hid (∀ j, cin m f g i (cou m f g k i) (j + 1) = upd (cin m f g i (cou m f g k i) j) (i + j) (addF m (cin m f g i (cou m f g k i) j (i + j)) (mulF m (f i) (g j)))) := Lib.hid fun _ => rfl
      have HEND : Hid (cin m f g i (cou m f g k i) k = cou m f g k (i + 1)) := Lib.hid rfl
      have HSTART : Hid (cou m f g k i = cin m f g i (cou m f g k i) 0) := Lib.hid rfl
      rw [HSTART.out] at HTT
      clear HSTART r0 r1 r2 r3 rf
      generalize hC : cin m f g i (cou m f g k i) = C at *
      generalize f i = u at *
      go_wp2_with fail
      have HT0 : Hid (TM w (wr.alloc (eblk (m : Int) u)) (m : Int) (.slice (some ⟨g1, 0, none⟩) n cap1) (.slice (some ⟨g2, 0, none⟩) k cap2) (C 0) N gT) := Lib.hid (HTT.out.below (B := wr.heap.size) (by (repeat' (first | (with_reducible assumption) | (with_reducible exact Below.refl _ _) | (with_reducible refine below_drewN ?_ _) | (with_reducible refine Below.drew ?_) | (with_reducible refine Below.alloc ?_ ?_ _) | (with_reducible refine Below.setCell ?_ ?_ _) | (with_reducible refine Below.trans ?_ (Below.mono (by assumption) ?_)) | (with_reducible exact Nat.le_refl _) | (with_reducible assumption) | omega | (simp; omega) | (simp; done)))) (Nat.le_refl _))
      have hC0 : (wr.alloc (eblk (m : Int) u)).heap[wr.heap.size]? = some (eblk (m : Int) u) := heap_alloc_new _ _
      have HC0 := Lib.hid hC0; clear hC0
      generalize wr.heap.size = S at *
      go_loopw [31] (fun vj ws => ∃ j : Nat, j ≤ k ∧ vj = .int .i64 j ∧ ws.heap[S]? = some (eblk (m : Int) u) ∧ TM w ws (m : Int) (.slice (some ⟨g1, 0, none⟩) n cap1) (.slice (some ⟨g2, 0, none⟩) k cap2) (C j) N gT) (fun vj _ => k - (intOf vj).toNat)
      case atStart => exact ⟨0, Nat.zero_le _, rfl, HC0.out, HT0.out⟩
      case round =>
        obtain ⟨j, hjk, rfl, hcb, ht⟩ := hrel
        obtain ⟨q0, q1, q2, q3, qf, ql0⟩ := cells4 ht.hp
        obtain ⟨v0, v1, v2, v3, vf, vl0⟩ := cells4 ht.ho
        obtain ⟨b0, b1, b2, b3, b4, b5, b6, bf, bl⟩ := seven hcb
        have hzs := ht.bel.size
        have hgs := ht.hk.lt
        by_cases hjlt : j < k
        · have hij : i + j < N := by omega
          obtain ⟨d0, d1, d2, d3, d4, d5, d6⟩ := (HE2.out _ ht.bel) j hjlt
          obtain ⟨e0, e1, e2, e3, e4, e5, e6⟩ := ht.he (i + j) hij
          have fr := ht.hk.free
          have hg2l : g2 < wr.heap.size := by omega
          have hT2 := Lib.hid (HT'.out j)
          have hA2 := Lib.hid (HA'.out j)
          have HUP := Lib.hid (HST.out j)
          have HTS := Lib.hid ht; clear ht
          have HCB := Lib.hid hcb; clear hcb
          have hz : (i : Int) + (j : Int) = ((i + j : Nat) : Int) := by omega
          have hsb : i + j ≤ 200 := by omega
          generalize hs : i + j = s at *
          have HSS := Lib.hid hs; clear hs
          have hij' : (s : Int) < (N : Int) := by omega
          have hwr : IntKind.i64.wrap (s : Int) = (s : Int) := by rw [IntKind.wrap_i64]; omega
          have hij2 : ¬ (N : Int) ≤ (s : Int) := by omega
          generalize C j s = y at *
          generalize g j = x at *
          generalize mulF m u x = z at *
          go_wp2_with fail
          go_region_with (first | (go_at_call 170; refine (hT2.out _).mono ?_; rintro e w2 ⟨rfl, hb2⟩; obtain ⟨hc2, hf2⟩ := bcell hb2; (try simp only [World.size_drew] at hc2 hf2); have hz2 := hb2.size; (try simp at hz2); have HB2 := Lib.hid hb2; clear hb2; have l2 : gT < w2.heap.size := (by omega); have l2' : S < w2.heap.size := (by omega)) | (go_at_call 174; refine (hA2.out _).mono ?_; rintro e w3 ⟨rfl, hb3⟩; obtain ⟨hc3, hf3⟩ := bcell hb3; (try simp only [World.size_drew] at hc3 hf3); have hz3 := hb3.size; (try simp at hz3); have HB3 := Lib.hid hb3; clear hb3; have l3 : gT < w3.heap.size := (by omega); have l3' : S < w3.heap.size := (by omega)))
          all_goals
            go_wp2
            go_roundw
            case rel =>
              have hb2 := HB2.out
              have hb3 := HB3.out
              have hbw : Below wr.heap.size wr w3 := by (repeat' (first | (with_reducible assumption) | (with_reducible exact Below.refl _ _) | (with_reducible refine below_drewN ?_ _) | (with_reducible refine Below.drew ?_) | (with_reducible refine Below.alloc ?_ ?_ _) | (with_reducible refine Below.setCell ?_ ?_ _) | (with_reducible refine Below.trans ?_ (Below.mono (by assumption) ?_)) | (with_reducible exact Nat.le_refl _) | (with_reducible assumption) | omega | (simp; omega) | (simp; done)))
              have t2 := (HTS.out.below hbw (Nat.le_refl _)).step hij (addF m y z)
              refine ⟨j + 1, by omega, by go_num, ?_, ?_⟩
              · exact (put7i_other _ _ _ _ _ _ (by omega)).trans ((hbw.block _ bl).trans HCB.out)
              · rw [HUP.out]
                exact t2
            case measure => (simp [intOf]; try omega)
        · obtain rfl : k = j := by omega
          rw [HEND.out] at ht
          have HTS := Lib.hid ht; clear ht
          go_wp2
          go_roundw
          case rel => exact ⟨i + 1, by omega, by go_num, HTS.out⟩
          case measure => (simp [intOf]; try omega)
    · obtain rfl : n = i := by omega
      have HTT := Lib.hid ht; clear ht
      go_wp2_with fail
      refine (HRD.out _ _ ⟨gT, N, rfl, hgl, HTT.out.he⟩).mono ?_
      rintro e w2 ⟨g3, cap3, rfl, hg3, he3, hb2⟩
      have ht2 := HTT.out.below hb2 (Nat.le_refl _)
      clear r0 r1 r2 r3 rf rl0 p0 p1 p2 p3 pf pl0 o0 o1 o2 o3 of ol0
      obtain ⟨r0, r1, r2, r3, rf, rl0⟩ := cells4 ht2.hr
      have HT2 := Lib.hid ht2; clear ht2
      have HE3 := Lib.hid he3; clear he3
      have HB2 := Lib.hid hb2; clear hb2
      go_wp2_with fail
      refine bodyPost_ret (v := polyE (m : Int) (.slice (some ⟨g3, 0, none⟩) (redn m (cou m f g k n) N) cap3)) (by simp [results, Tryz.results123, go_sem, r0, r1, r2, r3]) rfl ⟨g3, cap3, rfl, by simp; omega, ?_, ?_⟩
      · exact HE3.out.over HT2.out.hr (by omega) (fun k hk => put4_other _ _ _ _ _ hk)
      · have hb0 := HT2.out.bel
        (repeat' (first | (with_reducible assumption) | (with_reducible exact Below.refl _ _) | (with_reducible refine below_drewN ?_ _) | (with_reducible refine Below.drew ?_) | (with_reducible refine Below.alloc ?_ ?_ _) | (with_reducible refine Below.setCell ?_ ?_ _) | (with_reducible refine Below.trans ?_ (Below.mono (by assumption) ?_)) | (with_reducible exact Nat.le_refl _) | (with_reducible assumption) | omega | (simp; omega) | (simp; done)))
set_option maxHeartbeats 4000000 in
/-- impl.poly.scaled. -/
theorem scaledPE (m n : Nat) (a : Int) (v : Value) (f : Nat → Int) (w : World) (h : isSz (m : Int) = true) (hv : Se w v (m : Int) f n) (hf : ∀ i, El (m : Int) (f i)) (ha : El (m : Int) a) (hn : n ≤ 100) :
    Calls Tryz.prog 126 #[polyE (m : Int) v, elE (m : Int) a] w fun e w' => ∃ g' cap, e = .returned (polyE (m : Int) (.slice (some ⟨g', 0, none⟩) (redn m (fun i => mulF m a (f i)) n) cap)) ∧ g' < w'.heap.size ∧ Els w' g' (m : Int) (redR m (fun i => mulF m a (f i)) n) (redn m (fun i => mulF m a (f i)) n) ∧ Below w.heap.size w w' := by
  have hq := isSz_le (m : Int) h
  have HM := Lib.hid (fun w' (hb : Below w.heap.size w w') => mapped_times (m : Int) (elE (m : Int) a) v f (fun i => mulF m a (f i)) n w' (hv.below hb (Nat.le_refl _)) (by omega) (fun i hi w'' _ => timesE (m : Int) a (f i) w'' h ha.1 ha.2 (hf i).1 (hf i).2))
  have HRD := Lib.hid (fun v' w' (hs : Se w' v' (m : Int) (fun i => mulF m a (f i)) n) => reducedE m v' (fun i => mulF m a (f i)) n w' h hs (fun i => ha.mul h (hf i)) (by omega))
  obtain ⟨g1, cap1, rfl, hg1, he1⟩ := hv
  clear hf h ha he1
  generalize (fun i => mulF m a (f i)) = F at *
  generalize redn m F n = K at *
  generalize redR m F n = R at *
  go_enter Tryz.func126, Tryz.ntmps126
  go_wp2_with fail
  go_region_with (first | (go_at_call 164; refine (HM.out _ (by (repeat' (first | (with_reducible assumption) | (with_reducible exact Below.refl _ _) | (with_reducible refine below_drewN ?_ _) | (with_reducible refine Below.drew ?_) | (with_reducible refine Below.alloc ?_ ?_ _) | (with_reducible refine Below.setCell ?_ ?_ _) | (with_reducible refine Below.trans ?_ (Below.mono (by assumption) ?_)) | (with_reducible exact Nat.le_refl _) | (with_reducible assumption) | omega | (simp; omega) | (simp; done))))).mono ?_; rintro e w3 ⟨g3, rfl, hg3, hk3, he3, hb3⟩; have HSE3 : Hid (Se w3 (.slice (some ⟨g3, 0, none⟩) n n) (m : Int) F n) := Lib.hid ⟨g3, _, rfl, hk3.lt, he3⟩; clear hk3 he3; obtain ⟨hc3, hf3⟩ := bcell hb3; (try simp only [World.size_drew] at hc3 hf3); have hz3 := hb3.size; (try simp at hz3); have HB3 := Lib.hid hb3; clear hb3; have l3 : w.heap.size + 2 < w3.heap.size := (by omega)) | (go_at_call 109; refine (HRD.out _ _ HSE3.out).mono ?_; rintro e w4 ⟨g4, cp4, rfl, hg4, he4, hb4⟩; have HE4 := Lib.hid he4; clear he4; obtain ⟨hc4, hf4⟩ := bcell hb4; (try simp only [World.size_drew] at hc4 hf4); have hz4 := hb4.size; (try simp at hz4); have HB4 := Lib.hid hb4; clear hb4; have l4 : w.heap.size + 2 < w4.heap.size := (by omega)))
  all_goals
    go_wp2_with fail
    have hb3 := HB3.out
    have hb4 := HB4.out
    have hr : w4.heap[w.heap.size + 2]? = some pzblk := (Below.block (B := w.heap.size + 3) (w := ((w.alloc (pblk (m : Int) (.slice (some ⟨g1, 0, none⟩) n cap1))).alloc (eblk (m : Int) a)).alloc pzblk) (by (repeat' (first | (with_reducible assumption) | (with_reducible exact Below.refl _ _) | (with_reducible refine below_drewN ?_ _) | (with_reducible refine Below.drew ?_) | (with_reducible refine Below.alloc ?_ ?_ _) | (with_reducible refine Below.setCell ?_ ?_ _) | (with_reducible refine Below.trans ?_ (Below.mono (by assumption) ?_)) | (with_reducible exact Nat.le_refl _) | (with_reducible assumption) | omega | (simp; omega) | (simp; done)))) (w.heap.size + 2) (by omega)).trans (three w (pblk (m : Int) (.slice (some ⟨g1, 0, none⟩) n cap1)) (eblk (m : Int) a) pzblk).2.2
    obtain ⟨r0, r1, r2, r3, rf, rl0⟩ := cells4 hr
    refine bodyPost_ret (v := polyE (m : Int) (.slice (some ⟨g4, 0, none⟩) K cp4)) (by simp [results, Tryz.results126, go_sem, r0, r1, r2, r3]) rfl ⟨g4, cp4, rfl, by simp; omega, ?_, ?_⟩
    · exact HE4.out.over hr (by omega) (fun k hk => by (repeat' (first | (with_reducible rfl) | (with_reducible refine (heap_setCell_other _ _ _ _ ?_).trans ?_) | (with_reducible refine (drew_heap' _ _).trans ?_) | exact hk)))
    · (repeat' (first | (with_reducible assumption) | (with_reducible exact Below.refl _ _) | (with_reducible refine below_drewN ?_ _) | (with_reducible refine Below.drew ?_) | (with_reducible refine Below.alloc ?_ ?_ _) | (with_reducible refine Below.setCell ?_ ?_ _) | (with_reducible refine Below.trans ?_ (Below.mono (by assumption) ?_)) | (with_reducible exact Nat.le_refl _) | (with_reducible assumption) | omega | (simp; omega) | (simp; done)))
theorem Els.cellAt {w : World} {g n : Nat} {q : Int} {f : Nat → Int} (h : Els w g q f n) (j b : Nat) (hj : j < n) (hb : b < 7) : w.cell? ⟨g, j * 7 + b, none⟩ = (el7 q (f j))[b]? := by
  obtain ⟨h0, h1, h2, h3, h4, h5, h6⟩ := h j hj
  match b, hb with
  | 0, _ => exact h0
  | 1, _ => exact h1
  | 2, _ => exact h2
  | 3, _ => exact h3
  | 4, _ => exact h4
  | 5, _ => exact h5
  | 6, _ => exact h6
theorem Els.of {w : World} {g n : Nat} {q : Int} {f : Nat → Int} (h : ∀ j b, j < n → b < 7 → w.cell? ⟨g, j * 7 + b, none⟩ = (el7 q (f j))[b]?) : Els w g q f n := fun j hj =>
  ⟨h j 0 hj (by omega), h j 1 hj (by omega), h j 2 hj (by omega), h j 3 hj (by omega), h j 4 hj (by omega), h j 5 hj (by omega), h j 6 hj (by omega)⟩
theorem Els.copied {w w' : World} {g m n : Nat} {q : Int} {f : Nat → Int} {cur : List Value} (hcur : w.heap[g]? = some (.cells cur.toArray 67 (0, 0))) (hl : cur.length = m * 7) (he : Els w g q (fun _ => 0) m) (hn : n ≤ m) (zf : ∀ i, n ≤ i → f i = 0)
    (h : w'.heap[g]? = some (.cells (splice cur 0 (elc q f n)).toArray 67 (0, 0))) : Blk w' g m ∧ Els w' g q f m := by
  have hsz : (splice cur 0 (elc q f n)).length = m * 7 := by rw [length_splice _ _ _ (by rw [elc_len]; omega), hl]
  refine ⟨⟨_, h, by simpa using hsz⟩, Els.of fun j b hj hb => ?_⟩
  rw [cell_of_row w' g _ _ _ (0, 0) h, List.getElem?_toArray]
  unfold splice
  rw [List.take_zero, List.nil_append, elc_len]
  by_cases hjn : j < n
  · rw [List.getElem?_append_left (by rw [elc_len]; omega), elc_get q f n j b hjn hb]
  · rw [List.getElem?_append_right (by rw [elc_len]; omega), elc_len, List.getElem?_drop, zf j (by omega), ← he.cellAt j b hj hb, cell_of_row w g _ _ _ (0, 0) hcur, List.getElem?_toArray]
    congr 1
    omega
set_option maxHeartbeats 2000000 in
/-- impl.poly.padded. -/
theorem paddedE (m n : Nat) (v : Value) (f : Nat → Int) (w : World) (h : isSz (m : Int) = true) (hv : Se w v (m : Int) f n) (hn : n ≤ m) (zf : ∀ i, n ≤ i → f i = 0) :
    Calls Tryz.prog 184 #[polyE (m : Int) v] w fun e w' => ∃ g, e = .returned (.slice (some ⟨g, 0, none⟩) m m) ∧ w.heap.size ≤ g ∧ Blk w' g m ∧ Els w' g (m : Int) f m ∧ Below w.heap.size w w' := by
  obtain ⟨i0, hi, iz0, iz1, iz2⟩ := info_parts Tryz.infoE
  have hq := isSz_le (m : Int) h
  have HZ := Lib.hid (fun w => zerosE (m : Int) m w h (by omega))
  obtain ⟨g1, cap1, rfl, hg1, he1⟩ := hv
  have HSRC := Lib.hid (fun w' (hb : Below w.heap.size w w') => elc_cells (he1.below hb hg1))
  have hsz : (Tryz.prog.info? 67).map (fun i => i.size) = some 7 := by rw [hi]; simp [iz1]
  have hmin : Nat.min n m = n := Nat.min_eq_left hn
  have HCP : Hid (∀ (w w' : World) (g : Nat) (cur : List Value), w.heap[g]? = some (.cells cur.toArray 67 (0, 0)) → cur.length = m * 7 → Els w g (m : Int) (fun _ => 0) m → w'.heap[g]? = some (.cells (splice cur 0 (elc (m : Int) f n)).toArray 67 (0, 0)) → Blk w' g m ∧ Els w' g (m : Int) f m) := Lib.hid fun w w' g cur h1 h2 h3 h4 => h3.copied h1 h2 hn zf h4
  have HX1 := Lib.hid (elc_one (m : Int) f n)
  have hXL := elc_len (m : Int) f n
  generalize elc (m : Int) f n = X at *
  clear h he1 zf
  go_enter Tryz.func184, Tryz.ntmps184
  go_wp2_with fail
  refine (HZ.out _).mono ?_
  rintro e w1 ⟨g, rfl, hg, hk1, he1, hb1⟩
  simp at hg
  obtain ⟨cu, hcu, hcs⟩ := hk1
  obtain ⟨cur, rfl⟩ : ∃ cur : List Value, cu = cur.toArray := ⟨cu.toList, by simp⟩
  have hcl : cur.length = m * 7 := by simpa using hcs
  have HCUR := Lib.hid hcu; clear hcu hcs
  have HE1 := Lib.hid he1; clear he1
  have HBW : Hid (Below w.heap.size w w1) := Lib.hid (by (repeat' (first | (with_reducible assumption) | (with_reducible exact Below.refl _ _) | (with_reducible refine below_drewN ?_ _) | (with_reducible refine Below.drew ?_) | (with_reducible refine Below.alloc ?_ ?_ _) | (with_reducible refine Below.setCell ?_ ?_ _) | (with_reducible refine Below.trans ?_ (Below.mono (by assumption) ?_)) | (with_reducible exact Nat.le_refl _) | (with_reducible assumption) | omega | (simp; omega) | (simp; done))))
  have hgl : g < w1.heap.size := (Array.getElem?_eq_some_iff.1 HCUR.out).1
  obtain ⟨hc1, hf1⟩ := bcell hb1; have hz1 := hb1.size; (try simp at hz1); have HB1 := Lib.hid hb1; clear hb1
  have l1 : w.heap.size < w1.heap.size := by omega
  have HXS := Lib.hid (HSRC.out _ HBW.out)
  have hfit : 0 + X.length ≤ cur.length := by rw [hXL, hcl]; omega
  go_wp2_with (with_reducible refine wpList_copy_many (sz := 7) rfl _ _ 58 58 rfl 67 Tryz.underlying58 hsz _ _ _ _ _ _ rfl rfl g 0 cur 67 HCUR.out X ?d1 ?d2 hfit HX1.out w.heap.size w HBW.out (by omega) ?_)
  case d1 => rw [hXL, hmin]
  case d2 => intro _ j v hj; have := (HSRC.out w (Below.refl _ _)) j v hj; rw [add_off, Nat.zero_add] at this; exact this
  intro w2 HG2 hb2
  obtain ⟨hk2, he2⟩ := HCP.out _ _ _ _ HCUR.out hcl HE1.out HG2.out
  have HK2 := Lib.hid hk2
  have HE2 := Lib.hid he2
  have HB2 := Lib.hid hb2
  clear hk2 he2 hb2 HG2
  go_wp2
  go_ret
  exact ⟨g, rfl, by omega, HK2.out, HE2.out, HB2.out⟩
set_option maxRecDepth 100000 in
set_option maxHeartbeats 4000000 in
/-- The closure of impl.zipped over elements, at impl.element.times. -/
theorem cloZ_times (q x y z : Int) (i n g1 cap1 g2 cap2 A0 A1 A2 : Nat) (w : World) (hin : i < n)
    (HX : ∀ w', Below w.heap.size w w' → Calls Tryz.prog 170 #[elE q x, elE q y] w' fun e w'' => e = .returned (elE q z) ∧ Below w'.heap.size w' w'')
    (c0 : w.cell? ⟨A0, 0, none⟩ = some (.func (.func 170) #[] #[])) (c1 : w.cell? ⟨A1, 0, none⟩ = some (.slice (some ⟨g1, 0, none⟩) n cap1)) (c2 : w.cell? ⟨A2, 0, none⟩ = some (.slice (some ⟨g2, 0, none⟩) n cap2))
    (he : w.cell? ⟨g1, i * 7, none⟩ = some (.int .i64 q) ∧ w.cell? ⟨g1, i * 7 + 1, none⟩ = some (.int .i64 (pr q)) ∧ w.cell? ⟨g1, i * 7 + 2, none⟩ = some (.int .i64 (pl q)) ∧
      w.cell? ⟨g1, i * 7 + 3, none⟩ = some (.int .i64 (dg q x 0)) ∧ w.cell? ⟨g1, i * 7 + 4, none⟩ = some (.int .i64 (dg q x 1)) ∧ w.cell? ⟨g1, i * 7 + 5, none⟩ = some (.int .i64 (dg q x 2)) ∧ w.cell? ⟨g1, i * 7 + 6, none⟩ = some (.int .i64 (dg q x 3)))
    (hd : w.cell? ⟨g2, i * 7, none⟩ = some (.int .i64 q) ∧ w.cell? ⟨g2, i * 7 + 1, none⟩ = some (.int .i64 (pr q)) ∧ w.cell? ⟨g2, i * 7 + 2, none⟩ = some (.int .i64 (pl q)) ∧
      w.cell? ⟨g2, i * 7 + 3, none⟩ = some (.int .i64 (dg q y 0)) ∧ w.cell? ⟨g2, i * 7 + 4, none⟩ = some (.int .i64 (dg q y 1)) ∧ w.cell? ⟨g2, i * 7 + 5, none⟩ = some (.int .i64 (dg q y 2)) ∧ w.cell? ⟨g2, i * 7 + 6, none⟩ = some (.int .i64 (dg q y 3))) :
    Calls Tryz.prog 203 #[.int .i64 i, .pointer (some ⟨A0, 0, none⟩), .pointer (some ⟨A1, 0, none⟩), .pointer (some ⟨A2, 0, none⟩)] w fun e w' => e = .returned (elE q z) ∧ Below w.heap.size w w' := by
  have HXX := Lib.hid HX; clear HX
  obtain ⟨e0, e1, e2, e3, e4, e5, e6⟩ := he
  obtain ⟨d0, d1, d2, d3, d4, d5, d6⟩ := hd
  have l0 := World.block_lt_of_cell? w _ c0
  have l1 := World.block_lt_of_cell? w _ c1
  have l2 := World.block_lt_of_cell? w _ c2
  have l3 := World.block_lt_of_cell? w _ e0
  have l4 := World.block_lt_of_cell? w _ d0
  simp only at l0 l1 l2 l3 l4
  go_enter Tryz.func203, Tryz.ntmps203
  go_wp2_with fail
  have HKEEP : Hid (∀ w', Below w.heap.size w w' → w'.cell? ⟨A0, 0, none⟩ = some (.func (.func 170) #[] #[]) ∧ w'.cell? ⟨A1, 0, none⟩ = some (.slice (some ⟨g1, 0, none⟩) n cap1) ∧ w'.cell? ⟨A2, 0, none⟩ = some (.slice (some ⟨g2, 0, none⟩) n cap2) ∧ w'.cell? ⟨g1, i * 7, none⟩ = some (.int .i64 q) ∧ w'.cell? ⟨g1, i * 7 + 1, none⟩ = some (.int .i64 (pr q)) ∧ w'.cell? ⟨g1, i * 7 + 2, none⟩ = some (.int .i64 (pl q)) ∧ w'.cell? ⟨g1, i * 7 + 3, none⟩ = some (.int .i64 (dg q x 0)) ∧ w'.cell? ⟨g1, i * 7 + 4, none⟩ = some (.int .i64 (dg q x 1)) ∧ w'.cell? ⟨g1, i * 7 + 5, none⟩ = some (.int .i64 (dg q x 2)) ∧ w'.cell? ⟨g1, i * 7 + 6, none⟩ = some (.int .i64 (dg q x 3)) ∧ w'.cell? ⟨g2, i * 7, none⟩ = some (.int .i64 q) ∧ w'.cell? ⟨g2, i * 7 + 1, none⟩ = some (.int .i64 (pr q)) ∧ w'.cell? ⟨g2, i * 7 + 2, none⟩ = some (.int .i64 (pl q)) ∧ w'.cell? ⟨g2, i * 7 + 3, none⟩ = some (.int .i64 (dg q y 0)) ∧ w'.cell? ⟨g2, i * 7 + 4, none⟩ = some (.int .i64 (dg q y 1)) ∧ w'.cell? ⟨g2, i * 7 + 5, none⟩ = some (.int .i64 (dg q y 2)) ∧ w'.cell? ⟨g2, i * 7 + 6, none⟩ = some (.int .i64 (dg q y 3))) := Lib.hid fun w' hb => by
    exact ⟨(hb.cell (p := ⟨A0, 0, none⟩) l0).trans c0, (hb.cell (p := ⟨A1, 0, none⟩) l1).trans c1, (hb.cell (p := ⟨A2, 0, none⟩) l2).trans c2, (hb.cell (p := ⟨g1, i * 7, none⟩) l3).trans e0, (hb.cell (p := ⟨g1, i * 7 + 1, none⟩) l3).trans e1, (hb.cell (p := ⟨g1, i * 7 + 2, none⟩) l3).trans e2, (hb.cell (p := ⟨g1, i * 7 + 3, none⟩) l3).trans e3, (hb.cell (p := ⟨g1, i * 7 + 4, none⟩) l3).trans e4, (hb.cell (p := ⟨g1, i * 7 + 5, none⟩) l3).trans e5, (hb.cell (p := ⟨g1, i * 7 + 6, none⟩) l3).trans e6, (hb.cell (p := ⟨g2, i * 7, none⟩) l4).trans d0, (hb.cell (p := ⟨g2, i * 7 + 1, none⟩) l4).trans d1, (hb.cell (p := ⟨g2, i * 7 + 2, none⟩) l4).trans d2, (hb.cell (p := ⟨g2, i * 7 + 3, none⟩) l4).trans d3, (hb.cell (p := ⟨g2, i * 7 + 4, none⟩) l4).trans d4, (hb.cell (p := ⟨g2, i * 7 + 5, none⟩) l4).trans d5, (hb.cell (p := ⟨g2, i * 7 + 6, none⟩) l4).trans d6⟩
  go_region_held3 (fun w' => w'.cell? ⟨A0, 0, none⟩ = some (.func (.func 170) #[] #[]) ∧ w'.cell? ⟨A1, 0, none⟩ = some (.slice (some ⟨g1, 0, none⟩) n cap1) ∧ w'.cell? ⟨A2, 0, none⟩ = some (.slice (some ⟨g2, 0, none⟩) n cap2) ∧ w'.cell? ⟨g1, i * 7, none⟩ = some (.int .i64 q) ∧ w'.cell? ⟨g1, i * 7 + 1, none⟩ = some (.int .i64 (pr q)) ∧ w'.cell? ⟨g1, i * 7 + 2, none⟩ = some (.int .i64 (pl q)) ∧ w'.cell? ⟨g1, i * 7 + 3, none⟩ = some (.int .i64 (dg q x 0)) ∧ w'.cell? ⟨g1, i * 7 + 4, none⟩ = some (.int .i64 (dg q x 1)) ∧ w'.cell? ⟨g1, i * 7 + 5, none⟩ = some (.int .i64 (dg q x 2)) ∧ w'.cell? ⟨g1, i * 7 + 6, none⟩ = some (.int .i64 (dg q x 3)) ∧ w'.cell? ⟨g2, i * 7, none⟩ = some (.int .i64 q) ∧ w'.cell? ⟨g2, i * 7 + 1, none⟩ = some (.int .i64 (pr q)) ∧ w'.cell? ⟨g2, i * 7 + 2, none⟩ = some (.int .i64 (pl q)) ∧ w'.cell? ⟨g2, i * 7 + 3, none⟩ = some (.int .i64 (dg q y 0)) ∧ w'.cell? ⟨g2, i * 7 + 4, none⟩ = some (.int .i64 (dg q y 1)) ∧ w'.cell? ⟨g2, i * 7 + 5, none⟩ = some (.int .i64 (dg q y 2)) ∧ w'.cell? ⟨g2, i * 7 + 6, none⟩ = some (.int .i64 (dg q y 3)))
    (exact HKEEP.out _ (by (try have hb1 := HB1.out); (repeat' (first | (with_reducible assumption) | (with_reducible exact Below.refl _ _) | (with_reducible refine below_drewN ?_ _) | (with_reducible refine Below.drew ?_) | (with_reducible refine Below.alloc ?_ ?_ _) | (with_reducible refine Below.setCell ?_ ?_ _) | (with_reducible refine Below.trans ?_ (Below.mono (by assumption) ?_)) | (with_reducible exact Nat.le_refl _) | (with_reducible assumption) | omega | (simp; omega) | (simp; done)))))
    (first | (go_at_call 170; refine (HXX.out _ (by (repeat' (first | (with_reducible assumption) | (with_reducible exact Below.refl _ _) | (with_reducible refine below_drewN ?_ _) | (with_reducible refine Below.drew ?_) | (with_reducible refine Below.alloc ?_ ?_ _) | (with_reducible refine Below.setCell ?_ ?_ _) | (with_reducible refine Below.trans ?_ (Below.mono (by assumption) ?_)) | (with_reducible exact Nat.le_refl _) | (with_reducible assumption) | omega | (simp; omega) | (simp; done))))).mono ?_; rintro e w1 ⟨rfl, hb1⟩; obtain ⟨hc1, hf1⟩ := bcell hb1; (try simp only [World.size_drew] at hc1 hf1); have hz1 := hb1.size; (try simp at hz1); have HB1 := Lib.hid hb1; clear hb1; have l5 : w.heap.size < w1.heap.size := (by omega)))
  all_goals
    go_wp2_with fail
    have hb1 := HB1.out
    have q0 : w1.heap[w.heap.size]? = some zeroblk := (hb1.block _ (by simp)).trans (heap_alloc_new w _)
    obtain ⟨s0, s1, s2, s3, s4, s5, s6, sf, sl⟩ := seven q0
    clear q0
    refine bodyPost_ret (v := elE q z) (by simp [results, Tryz.results203, go_sem, s0, s1, s2, s3, s4, s5, s6]) rfl ⟨rfl, ?_⟩
    (repeat' (first | (with_reducible assumption) | (with_reducible exact Below.refl _ _) | (with_reducible refine below_drewN ?_ _) | (with_reducible refine Below.drew ?_) | (with_reducible refine Below.alloc ?_ ?_ _) | (with_reducible refine Below.setCell ?_ ?_ _) | (with_reducible refine Below.trans ?_ (Below.mono (by assumption) ?_)) | (with_reducible exact Nat.le_refl _) | (with_reducible assumption) | omega | (simp; omega) | (simp; done)))
set_option maxHeartbeats 2000000 in
/-- impl.zipped over elements, at impl.element.times. -/
theorem zipped_times (q : Int) (v1 v2 : Value) (f g u : Nat → Int) (n : Nat) (w : World) (hv1 : Se w v1 q f n) (hv2 : Se w v2 q g n) (hl : n ≤ 1000)
    (HC : ∀ i, i < n → ∀ w', Below w.heap.size w w' → Calls Tryz.prog 170 #[elE q (f i), elE q (g i)] w' fun e w'' => e = .returned (elE q (u i)) ∧ Below w'.heap.size w' w'') :
    Calls Tryz.prog 169 #[v1, v2, .func (.func 170) #[] #[]] w fun e w' => ∃ g', e = .returned (.slice (some ⟨g', 0, none⟩) n n) ∧ w.heap.size ≤ g' ∧ Blk w' g' n ∧ Els w' g' q u n ∧ Below w.heap.size w w' := by
  obtain ⟨g1, cap1, rfl, hg1, he1⟩ := hv1
  obtain ⟨g2, cap2, rfl, hg2, he2⟩ := hv2
  have HX : Hid (∀ (T1 T2 T3 : TypeId) (i : Nat) w', i < n → Below (((w.alloc (.cells #[.slice (some ⟨g1, 0, none⟩) n cap1] T1)).alloc (.cells #[.slice (some ⟨g2, 0, none⟩) n cap2] T2)).alloc (.cells #[.func (.func 170) #[] #[]] T3)).heap.size (((w.alloc (.cells #[.slice (some ⟨g1, 0, none⟩) n cap1] T1)).alloc (.cells #[.slice (some ⟨g2, 0, none⟩) n cap2] T2)).alloc (.cells #[.func (.func 170) #[] #[]] T3)) w' →
      Calls Tryz.prog 203 #[.int .i64 i, .pointer (some ⟨w.heap.size + 1 + 1, 0, none⟩), .pointer (some ⟨w.heap.size, 0, none⟩), .pointer (some ⟨w.heap.size + 1, 0, none⟩)] w' fun e w'' => e = .returned (elE q (u i)) ∧ Below w'.heap.size w' w'') := Lib.hid fun T1 T2 T3 i w' hi hb => by
    have hbw : Below w.heap.size w w' := by (repeat' (first | (with_reducible assumption) | (with_reducible exact Below.refl _ _) | (with_reducible refine below_drewN ?_ _) | (with_reducible refine Below.drew ?_) | (with_reducible refine Below.alloc ?_ ?_ _) | (with_reducible refine Below.setCell ?_ ?_ _) | (with_reducible refine Below.trans ?_ (Below.mono (by assumption) ?_)) | (with_reducible exact Nat.le_refl _) | (with_reducible assumption) | omega | (simp; omega) | (simp; done)))
    obtain ⟨t0, t1, t2⟩ := three w (.cells #[.slice (some ⟨g1, 0, none⟩) n cap1] T1) (.cells #[.slice (some ⟨g2, 0, none⟩) n cap2] T2) (.cells #[.func (.func 170) #[] #[]] T3)
    refine cloZ_times q _ _ _ i n g1 cap1 g2 cap2 _ _ _ w' hi (fun w'' hb'' => HC i hi w'' (hbw.trans (hb''.mono hbw.size))) (at_box (T := T3) ?_) (at_box (T := T1) ?_) (at_box (T := T2) ?_) ((he1.below hbw hg1) i hi) ((he2.below hbw hg2) i hi)
    · rw [hb.block _ (by simp)]
      exact t2
    · rw [hb.block _ (by simp; omega)]
      exact t0
    · rw [hb.block _ (by simp)]
      exact t1
  clear HC he1 he2
  go_enter Tryz.func169, Tryz.ntmps169
  go_wp2_with fail
  refine (listOf_Z q n u (w.heap.size + 1 + 1) w.heap.size (w.heap.size + 1) _ hl (HX.out _ _ _)).mono ?_
  rintro e w1 ⟨rfl, hk1, he1, hb1⟩
  have HK := Lib.hid hk1; clear hk1
  have HE := Lib.hid he1; clear he1
  have HB1 := Lib.hid hb1; clear hb1
  go_wp2
  go_ret
  have hb1 := HB1.out
  exact ⟨_, rfl, by omega, by simpa using HK.out, by simpa using HE.out, by (repeat' (first | (with_reducible assumption) | (with_reducible exact Below.refl _ _) | (with_reducible refine below_drewN ?_ _) | (with_reducible refine Below.drew ?_) | (with_reducible refine Below.alloc ?_ ?_ _) | (with_reducible refine Below.setCell ?_ ?_ _) | (with_reducible refine Below.trans ?_ (Below.mono (by assumption) ?_)) | (with_reducible exact Nat.le_refl _) | (with_reducible assumption) | omega | (simp; omega) | (simp; done)))⟩
/-- The memory of sumOf between two rounds. -/
structure TU (w0 wr : World) (q s : Int) (S : Nat) : Prop where
  hf : wr.heap[w0.heap.size]? = some (ffblk q)
  hr : wr.heap[w0.heap.size + 1]? = some zeroblk
  hs : wr.heap[S]? = some (eblk q s)
  bel : Below w0.heap.size w0 wr
  lt : w0.heap.size + 1 < S
theorem TU.step {w0 wr w5 : World} {q s : Int} {S : Nat} (h : TU w0 wr q s S) (hb : Below wr.heap.size wr w5) (s' : Int) : TU w0 (put7 w5 S q s') q s' S := by
  have hl := h.lt
  have hS : S < wr.heap.size := (Array.getElem?_eq_some_iff.1 h.hs).1
  refine ⟨?_, ?_, ?_, ?_, hl⟩
  · rw [put7_other _ _ _ _ _ (by omega), hb.block _ (by omega)]; exact h.hf
  · rw [put7_other _ _ _ _ _ (by omega), hb.block _ (by omega)]; exact h.hr
  · exact put7_same _ _ _ _ _ _ _ _ _ _ _ (by rw [hb.block _ hS]; exact h.hs)
  · exact put7_below (h.bel.trans (hb.mono (by omega))) _ (by omega) _ _
set_option maxHeartbeats 4000000 in
/-- impl.field.sumOf. -/
theorem sumOfE (q : Int) (v : Value) (f : Nat → Int) (n : Nat) (w : World) (h : isSz q = true) (hv : Se w v q f n) (hf : ∀ i, i < n → El q (f i)) (hn : n ≤ 1000) :
    Calls Tryz.prog 167 #[fdE q, v] w fun e w' => e = .returned (elE q (lsum q f n)) ∧ Below w.heap.size w w' := by
  have HZ := Lib.hid (fun w => zeroE q w h)
  have HSE : Hid (∀ k, k ≤ n → El q (lsum q f k)) := Lib.hid fun k hk => lsum_el h fun i hi => hf i (by omega)
  have HA := Lib.hid (fun (k : Nat) (hk : k < n) w => plusE q (lsum q f k) (f k) w h (HSE.out k (by omega)).1 (HSE.out k (by omega)).2 (hf k hk).1 (hf k hk).2)
  obtain ⟨g, cap, rfl, hg, he⟩ := hv
  have HEL := Lib.hid (fun wr (hb : Below w.heap.size w wr) => he.below hb hg)
  clear h hf he HSE
  go_enter Tryz.func167, Tryz.ntmps167
  go_wp2_with fail
  refine (HZ.out _).mono ?_
  rintro e w1 ⟨rfl, hb1⟩
  have hz1 := hb1.size
  simp at hz1
  have htu : TU w (w1.alloc (eblk q 0)) q (lsum q f 0) w1.heap.size := by
    have hb' : Below (w.heap.size + 2) ((w.alloc (ffblk q)).alloc zeroblk) w1 := hb1.mono (by simp)
    obtain ⟨t0, t1⟩ := two w (ffblk q) zeroblk
    refine ⟨?_, ?_, heap_alloc_new _ _, by (repeat' (first | (with_reducible assumption) | (with_reducible exact Below.refl _ _) | (with_reducible refine below_drewN ?_ _) | (with_reducible refine Below.drew ?_) | (with_reducible refine Below.alloc ?_ ?_ _) | (with_reducible refine Below.setCell ?_ ?_ _) | (with_reducible refine Below.trans ?_ (Below.mono (by assumption) ?_)) | (with_reducible exact Nat.le_refl _) | (with_reducible assumption) | omega | (simp; omega) | (simp; done))), by omega⟩
    · rw [Below.heap_alloc _ _ _ (by omega), hb'.block _ (by omega)]; exact t0
    · rw [Below.heap_alloc _ _ _ (by omega), hb'.block _ (by omega)]; exact t1
  have HTU := Lib.hid htu; clear htu hb1
  go_wp2_with fail
  generalize w1.heap.size = S at *
  go_loopw [12] (fun vi wr => ∃ k : Nat, k ≤ n ∧ vi = .int .i64 k ∧ TU w wr q (lsum q f k) S) (fun vi _ => n - (intOf vi).toNat)
  case atStart => exact ⟨0, Nat.zero_le _, rfl, HTU.out⟩
  case round =>
    obtain ⟨k, hk, rfl, ht⟩ := hrel
    obtain ⟨s0, s1, s2, s3, s4, s5, s6, sf, sl⟩ := seven ht.hs
    obtain ⟨r0, r1, r2, r3, r4, r5, r6, rf, rl⟩ := seven ht.hr
    have hlt0 := ht.lt
    by_cases hlt : k < n
    · clear r0 r1 r2 r3 r4 r5 r6 rf
      have HS : Hid (addF q (lsum q f k) (f k) = lsum q f (k + 1)) := Lib.hid rfl
      obtain ⟨c0, c1, c2, c3, c4, c5, c6⟩ := (HEL.out _ ht.bel) k hlt
      have hgl : g < wr.heap.size := by have := ht.bel.size; omega
      have HA' := Lib.hid (HA.out k hlt)
      have HTT := Lib.hid ht; clear ht
      generalize lsum q f k = y at *
      generalize f k = u at *
      go_wp2_with fail
      refine (HA'.out _).mono ?_
      rintro e w3 ⟨rfl, hb3⟩
      obtain ⟨hc3, hf3⟩ := bcell hb3; have hz3 := hb3.size; (try simp at hz3); have HB3 := Lib.hid hb3; clear hb3
      have l3 : S < w3.heap.size := by omega
      go_wp2
      go_roundw
      case rel =>
        have hb3 := HB3.out
        refine ⟨k + 1, by omega, by go_num, ?_⟩
        rw [← HS.out]
        exact HTT.out.step (w5 := w3) (by (repeat' (first | (with_reducible assumption) | (with_reducible exact Below.refl _ _) | (with_reducible refine below_drewN ?_ _) | (with_reducible refine Below.drew ?_) | (with_reducible refine Below.alloc ?_ ?_ _) | (with_reducible refine Below.setCell ?_ ?_ _) | (with_reducible refine Below.trans ?_ (Below.mono (by assumption) ?_)) | (with_reducible exact Nat.le_refl _) | (with_reducible assumption) | omega | (simp; omega) | (simp; done)))) (addF q y u)
      case measure => (simp [intOf]; try omega)
    · obtain rfl : n = k := by omega
      have hb := ht.bel
      have HTT := Lib.hid ht; clear ht
      go_wp2_with fail
      refine bodyPost_ret (v := elE q (lsum q f n)) (by simp [results, Tryz.results167, go_sem, r0, r1, r2, r3, r4, r5, r6]) rfl ⟨rfl, ?_⟩
      (repeat' (first | (with_reducible assumption) | (with_reducible exact Below.refl _ _) | (with_reducible refine below_drewN ?_ _) | (with_reducible refine Below.drew ?_) | (with_reducible refine Below.alloc ?_ ?_ _) | (with_reducible refine Below.setCell ?_ ?_ _) | (with_reducible refine Below.trans ?_ (Below.mono (by assumption) ?_)) | (with_reducible exact Nat.le_refl _) | (with_reducible assumption) | omega | (simp; omega) | (simp; done)))
theorem Els.congr {w : World} {g n : Nat} {q : Int} {f f' : Nat → Int} (h : Els w g q f n) (e : ∀ i, i < n → f i = f' i) : Els w g q f' n := fun j hj => by rw [← e j hj]; exact h j hj
/-- The memory of polyWithTable. -/
structure TPW (w0 wr : World) (m : Nat) (c : Nat → Int) (gT gE : Nat) : Prop where
  hf : wr.heap[w0.heap.size]? = some (ffblk (m : Int))
  hr : wr.heap[w0.heap.size + 1]? = some pzblk
  hk : Blk wr gT m
  he : Els wr gT (m : Int) c m
  hE : Els wr gE (m : Int) (fun j => (j : Int)) m
  bel : Below w0.heap.size w0 wr
  lt : w0.heap.size + 1 < gT
  ne : gT < gE
  lE : gE < wr.heap.size
theorem TPW.below {w0 wr w' : World} {m : Nat} {c : Nat → Int} {gT gE B : Nat} (h : TPW w0 wr m c gT gE) (hb : Below B wr w') (hB : wr.heap.size ≤ B) : TPW w0 w' m c gT gE := by
  have hg := h.hk.lt
  have hl := h.lt
  have hn := h.ne
  have he := h.lE
  have hs := h.bel.size
  have hs' := hb.size
  exact ⟨(hb.block _ (by omega)).trans h.hf, (hb.block _ (by omega)).trans h.hr, h.hk.below hb (by omega), h.he.below hb (by omega), h.hE.below hb (by omega), h.bel.trans (hb.mono (by omega)), hl, hn, by omega⟩
theorem TPW.step {w0 wr : World} {m : Nat} {c : Nat → Int} {gT gE i : Nat} (h : TPW w0 wr m c gT gE) (hi : i < m) (x : Int) : TPW w0 (put7i wr gT i m x) m (upd c i x) gT gE := by
  have hl := h.lt
  have hn := h.ne
  have hle := h.lE
  obtain ⟨he, hk⟩ := Els.put x h.hk hi (Nat.le_refl _) h.he
  exact ⟨(put7i_other _ _ _ _ _ _ (by omega)).trans h.hf, (put7i_other _ _ _ _ _ _ (by omega)).trans h.hr, hk, he, h.hE.same (put7i_other _ _ _ _ _ _ (by omega)), put7i_below h.bel _ (by omega) _ _ _, hl, hn, by simp; omega⟩
/-- The terms after s rounds: those from m - s on. -/
def tmsI (m : Nat) (t : Nat → Int) (s : Nat) : Nat → Int := fun j => if m - s ≤ j then tms m t j else 0
theorem tmsI_step {m : Nat} {t : Nat → Int} {s : Nat} (hs : s + 1 < m) {i : Nat} : i < m → tmsI m t (s + 1) i = upd (tmsI m t s) (m - 1 - s) (subF m 0 (lsum m (psl m t s) m)) i := fun hi => by
  by_cases e : i = m - 1 - s
  · subst e
    rw [upd_at]
    unfold tmsI tms
    rw [if_pos (by omega), if_neg (by omega), show m - 1 - (m - 1 - s) = s by omega]
  · rw [upd_ne _ _ _ _ e]
    unfold tmsI
    by_cases h1 : m - s ≤ i
    · rw [if_pos h1, if_pos (by omega)]
    · rw [if_neg h1, if_neg (by omega)]
theorem tmsI_end {m : Nat} {t : Nat → Int} (hm : 2 ≤ m) {i : Nat} : i < m → upd (tmsI m t (m - 1)) 0 (t 0) i = tms m t i := fun _ => by
  by_cases e : i = 0
  · subst e
    rw [upd_at]
    rfl
  · rw [upd_ne _ _ _ _ e]
    unfold tmsI
    rw [if_pos (by omega)]
theorem tms_el {m : Nat} {t : Nat → Int} (h : isSz (m : Int) = true) (ht : ∀ i, El m (t i)) (i : Nat) : El m (tms m t i) := by
  rw [tms_same h ht]
  exact ipl_el h ht m i (Nat.le_refl _)
set_option maxRecDepth 100000 in
set_option maxHeartbeats 4000000 in
/-- impl.field.polyWithTable. -/
theorem polyWithTableE (m : Nat) (v : Value) (t : Nat → Int) (w : World) (h : isSz (m : Int) = true) (hv : Se w v (m : Int) t m) (ht : ∀ i, El (m : Int) (t i)) :
    Calls Tryz.prog 92 #[fdE (m : Int), v] w fun e w' => ∃ g' cap, e = .returned (polyE (m : Int) (.slice (some ⟨g', 0, none⟩) (redn m (tms m t) m) cap)) ∧ g' < w'.heap.size ∧ Els w' g' (m : Int) (redR m (tms m t) m) (redn m (tms m t) m) ∧ Below w.heap.size w w' := by
  have hq := isSz_le (m : Int) h
  have HZ := Lib.hid (fun w => zerosE (m : Int) m w h (by omega))
  have HE := Lib.hid (fun w => elements_any (m : Int) w h)
  rw [Int.toNat_natCast] at HE
  have HPS : Hid (∀ s i, i < m → El (m : Int) (psl m t s i)) := Lib.hid fun s i hi => psl_el h ht s i hi
  have HS := Lib.hid (fun (s : Nat) v' w' (hs : Se w' v' (m : Int) (psl m t s) m) => sumOfE (m : Int) v' (psl m t s) m w' h hs (HPS.out s) (by omega))
  have HLS : Hid (∀ s, El (m : Int) (lsum m (psl m t s) m)) := Lib.hid fun s => lsum_el h (HPS.out s)
  have HN := Lib.hid (fun (s : Nat) w => negE (m : Int) (lsum m (psl m t s) m) w h (HLS.out s).1 (HLS.out s).2)
  have HZP := Lib.hid (fun (s : Nat) v1 v2 w' (h1 : Se w' v1 (m : Int) (psl m t s) m) (h2 : Se w' v2 (m : Int) (fun j => (j : Int)) m) => zipped_times (m : Int) v1 v2 (psl m t s) (fun j => (j : Int)) (psl m t (s + 1)) m w' h1 h2 (by omega) (fun i hi w'' _ => timesE (m : Int) (psl m t s i) (i : Int) w'' h (HPS.out s i hi).1 (HPS.out s i hi).2 (by omega) (by omega)))
  have HRD := Lib.hid (fun v' w' (hs : Se w' v' (m : Int) (tms m t) m) => reducedE m v' (tms m t) m w' h hs (tms_el h ht) (by omega))
  have HSTEP : Hid (∀ s, s + 1 < m → ∀ i, i < m → upd (tmsI m t s) (m - 1 - s) (subF m 0 (lsum m (psl m t s) m)) i = tmsI m t (s + 1) i) := Lib.hid fun s hs i hi => (tmsI_step hs hi).symm
  have HEND : Hid (∀ i, i < m → upd (tmsI m t (m - 1)) 0 (t 0) i = tms m t i) := Lib.hid fun i hi => tmsI_end (by omega) hi
  have HBEG : Hid (∀ i, i < m → (fun _ => (0 : Int)) i = tmsI m t 0 i) := Lib.hid fun i hi => by unfold tmsI; rw [if_neg (by omega)]
  have HP0 : Hid (psl m t 0 = t) := Lib.hid rfl
  obtain ⟨g0, cap0, rfl, hg0, he0⟩ := hv
  have HE0 := Lib.hid (fun wr (hb : Below w.heap.size w wr) => he0.below hb hg0)
  clear h ht he0 HLS
  generalize psl m t = Q at *
  generalize redn m (tms m t) m = K at *
  generalize redR m (tms m t) m = R at *
  generalize tmsI m t = T at *
  go_enter Tryz.func92, Tryz.ntmps92
  go_wp2_with fail
  refine (HZ.out _).mono ?_
  rintro e w1 ⟨gT, rfl, hgT, hk1, hz1, hb1⟩
  simp at hgT
  have hgl1 := hk1.lt
  have HK1 := Lib.hid hk1; clear hk1
  have HZ1 := Lib.hid (hz1.congr HBEG.out); clear hz1
  obtain ⟨hc1, hf1⟩ := bcell hb1; have hz1 := hb1.size; (try simp at hz1); have HB1 := Lib.hid hb1; clear hb1
  have l1 : w.heap.size < w1.heap.size := by omega
  go_wp2_with fail
  refine (HE.out _).mono ?_
  rintro e w2 ⟨gE, capE, rfl, hgE, hkE, hE2, hb2⟩
  have htp : TPW w w2 m (T 0) gT gE := by
    have hb1 := HB1.out
    have hlE := hkE.lt
    have hb' : Below (w.heap.size + 2) ((w.alloc (ffblk (m : Int))).alloc pzblk) w2 := by (repeat' (first | (with_reducible assumption) | (with_reducible exact Below.refl _ _) | (with_reducible refine below_drewN ?_ _) | (with_reducible refine Below.drew ?_) | (with_reducible refine Below.alloc ?_ ?_ _) | (with_reducible refine Below.setCell ?_ ?_ _) | (with_reducible refine Below.trans ?_ (Below.mono (by assumption) ?_)) | (with_reducible exact Nat.le_refl _) | (with_reducible assumption) | omega | (simp; omega) | (simp; done)))
    obtain ⟨t0, t1⟩ := two w (ffblk (m : Int)) pzblk
    exact ⟨(hb'.block _ (by omega)).trans t0, (hb'.block _ (by omega)).trans t1, HK1.out.below hb2 hgl1, HZ1.out.below hb2 hgl1, hE2, by (repeat' (first | (with_reducible assumption) | (with_reducible exact Below.refl _ _) | (with_reducible refine below_drewN ?_ _) | (with_reducible refine Below.drew ?_) | (with_reducible refine Below.alloc ?_ ?_ _) | (with_reducible refine Below.setCell ?_ ?_ _) | (with_reducible refine Below.trans ?_ (Below.mono (by assumption) ?_)) | (with_reducible exact Nat.le_refl _) | (with_reducible assumption) | omega | (simp; omega) | (simp; done))), by omega, by omega, hlE⟩
  have HTP := Lib.hid htp
  clear htp hkE hE2 hgE hc1 hf1 l1
  have hb12 := HTP.out.bel
  have HP7 : Hid (Els w2 g0 (m : Int) (Q 0) m) := Lib.hid (by rw [HP0.out]; exact HE0.out _ hb12)
  have hg02 : g0 < w2.heap.size := by have := hb12.size; omega
  have hg0T : g0 < gT := by have := HTP.out.lt; omega
  clear hb2 hb12
  obtain ⟨f0, f1, f2, ff, fl0⟩ := cells3' HTP.out.hf
  go_wp2_with fail
  clear f0 f1 f2 ff fl0
  go_loopw [7, 8] (fun vp vj wr => ∃ s : Nat, s < m ∧ vj = .int .i64 ((m : Int) - 1 - (s : Int)) ∧ TPW w wr m (T s) gT gE ∧ ∃ g7 cap7, vp = .slice (some ⟨g7, 0, none⟩) m cap7 ∧ g7 < wr.heap.size ∧ g7 ≠ gT ∧ Els wr g7 (m : Int) (Q s) m) (fun _ vj _ => (intOf vj).toNat)
  case atStart => exact ⟨0, by omega, by simp, HTP.out, g0, cap0, rfl, hg02, by omega, HP7.out⟩
  case round =>
    obtain ⟨s, hsm, rfl, htp, g7, cap7, rfl, hg7, hne7, he7⟩ := hrel
    obtain ⟨f0, f1, f2, ff, fl0⟩ := cells3' htp.hf
    have hgl := htp.hk.lt
    have hlt0 := htp.lt
    by_cases hlt : s + 1 < m
    · have hz : (m : Int) - 1 - (s : Int) = ((m - 1 - s : Nat) : Int) := by omega
      have hpos : (0 : Int) < ((m - 1 - s : Nat) : Int) := by omega
      have HS' := Lib.hid (HS.out s)
      have HN' := Lib.hid (HN.out s)
      have HZP' := Lib.hid (HZP.out s)
      have HST := Lib.hid (HSTEP.out s hlt)
      have him : m - 1 - s < m := by omega
      have fr := htp.hk.free
      have HTPr := Lib.hid htp; clear htp
      have HE7 := Lib.hid he7; clear he7
      rw [hz]
      generalize hi : m - 1 - s = i at *
      have HI := Lib.hid hi; clear hi hz
      generalize lsum m (Q s) m = y at *
      go_wp2_with fail
      refine (HS'.out _ _ ⟨g7, cap7, rfl, hg7, HE7.out⟩).mono ?_
      rintro e w3 ⟨rfl, hb3⟩
      have HTP3 := Lib.hid (HTPr.out.below hb3 (Nat.le_refl _))
      have HE73 := Lib.hid (HE7.out.below hb3 hg7)
      have hz3 := hb3.size
      clear hb3
      go_wp2_with fail
      refine (HN'.out _).mono ?_
      rintro e w4 ⟨rfl, hb4⟩
      have HTP4 := Lib.hid (HTP3.out.below hb4 (Nat.le_refl _))
      have HE74 := Lib.hid (HE73.out.below hb4 (by omega))
      have hz4 := hb4.size
      have hgT4 := HTP4.out.hk.lt
      clear hb4
      obtain ⟨x0, c0⟩ := HTP4.out.hk.at (i * 7) (by omega)
      obtain ⟨x1, c1⟩ := HTP4.out.hk.at (i * 7 + 1) (by omega)
      obtain ⟨x2, c2⟩ := HTP4.out.hk.at (i * 7 + 2) (by omega)
      obtain ⟨x3, c3⟩ := HTP4.out.hk.at (i * 7 + 3) (by omega)
      obtain ⟨x4, c4⟩ := HTP4.out.hk.at (i * 7 + 4) (by omega)
      obtain ⟨x5, c5⟩ := HTP4.out.hk.at (i * 7 + 5) (by omega)
      obtain ⟨x6, c6⟩ := HTP4.out.hk.at (i * 7 + 6) (by omega)
      have fr4 := HTP4.out.hk.free
      have HTP5 := Lib.hid (HTP4.out.step him (subF m 0 y))
      have HE75 : Hid (Els (put7i w4 gT i m (subF m 0 y)) g7 (m : Int) (Q s) m) := Lib.hid (HE74.out.same (put7i_other _ _ _ _ _ _ hne7))
      have hg75 : g7 < (put7i w4 gT i m (subF m 0 y)).heap.size := by simp; omega
      have HSE5 : Hid (Se (put7i w4 gT i m (subF m 0 y)) (.slice (some ⟨g7, 0, none⟩) m cap7) (m : Int) (Q s) m) := Lib.hid ⟨g7, cap7, rfl, hg75, HE75.out⟩
      have HSEE : Hid (Se (put7i w4 gT i m (subF m 0 y)) (.slice (some ⟨gE, 0, none⟩) m capE) (m : Int) (fun j => (j : Int)) m) := Lib.hid ⟨gE, capE, rfl, HTP5.out.lE, HTP5.out.hE⟩
      clear hg75
      go_wp2_with fail
      refine (HZP'.out _ _ _ HSE5.out HSEE.out).mono ?_
      rintro e w6 ⟨g8, rfl, hg8, hk8, he8, hb6⟩
      have hl8 := hk8.lt
      have HTP6 := Lib.hid (HTP5.out.below hb6 (Nat.le_refl _))
      have HE8 := Lib.hid he8
      have hne8 : g8 ≠ gT := by have := HTP5.out.hk.lt; omega
      clear he8 hk8 hb6 hg8
      go_wp2
      go_roundw
      case rel =>
        have hI := HI.out
        refine ⟨s + 1, hlt, by rw [← hI]; exact congrArg (Value.int .i64) (by omega), ?_, g8, _, rfl, hl8, hne8, HE8.out⟩
        have h6 := HTP6.out
        exact { h6 with he := h6.he.congr HST.out }
      case measure => (simp [intOf]; try omega)
    · obtain rfl : s = m - 1 := by omega
      have hz : (m : Int) - 1 - ((m - 1 : Nat) : Int) = 0 := by omega
      rw [hz]
      obtain ⟨v0, v1, v2, v3, v4, v5, v6⟩ := (HE0.out _ htp.bel) 0 (by omega)
      obtain ⟨x0, c0⟩ := htp.hk.at 0 (by omega)
      obtain ⟨x1, c1⟩ := htp.hk.at 1 (by omega)
      obtain ⟨x2, c2⟩ := htp.hk.at 2 (by omega)
      obtain ⟨x3, c3⟩ := htp.hk.at 3 (by omega)
      obtain ⟨x4, c4⟩ := htp.hk.at 4 (by omega)
      obtain ⟨x5, c5⟩ := htp.hk.at 5 (by omega)
      obtain ⟨x6, c6⟩ := htp.hk.at 6 (by omega)
      have fr := htp.hk.free
      have hg0l : g0 < wr.heap.size := by have := htp.bel.size; omega
      have h5 := htp.step (show 0 < m by omega) (t 0)
      have HTP5 : Hid (TPW w (put7i wr gT 0 m (t 0)) m (tms m t) gT gE) := Lib.hid { h5 with he := h5.he.congr HEND.out }
      have HSE : Hid (Se (put7i wr gT 0 m (t 0)) (.slice (some ⟨gT, 0, none⟩) m m) (m : Int) (tms m t) m) := Lib.hid ⟨gT, m, rfl, HTP5.out.hk.lt, HTP5.out.he⟩
      simp only [Nat.zero_mul, Nat.zero_add] at v0 v1 v2 v3 v4 v5 v6
      obtain ⟨ff0, ff1, ff2, fff, ffl⟩ := cells3' HTP5.out.hf
      clear h5 htp he7
      generalize t 0 = u at *
      go_wp2_with fail
      refine (HRD.out _ _ HSE.out).mono ?_
      rintro e w6 ⟨g8, cap8, rfl, hg8, he8, hb6⟩
      have ht6 := HTP5.out.below hb6 (Nat.le_refl _)
      have HT6 := Lib.hid ht6; clear ht6
      have HE8 := Lib.hid he8; clear he8 hb6
      obtain ⟨r0, r1, r2, r3, rf, rl0⟩ := cells4 HT6.out.hr
      go_wp2_with fail
      refine bodyPost_ret (v := polyE (m : Int) (.slice (some ⟨g8, 0, none⟩) K cap8)) (by simp [results, Tryz.results92, go_sem, r0, r1, r2, r3]) rfl ⟨g8, cap8, rfl, by simp; omega, ?_, ?_⟩
      · exact HE8.out.over HT6.out.hr (by omega) (fun k hk => put4_other _ _ _ _ _ hk)
      · have hb0 := HT6.out.bel
        (repeat' (first | (with_reducible assumption) | (with_reducible exact Below.refl _ _) | (with_reducible refine below_drewN ?_ _) | (with_reducible refine Below.drew ?_) | (with_reducible refine Below.alloc ?_ ?_ _) | (with_reducible refine Below.setCell ?_ ?_ _) | (with_reducible refine Below.trans ?_ (Below.mono (by assumption) ?_)) | (with_reducible exact Nat.le_refl _) | (with_reducible assumption) | omega | (simp; omega) | (simp; done)))
end Go.Proofs.YtljijnanmpajaaaGreat
