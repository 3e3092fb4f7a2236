/- impl.field.zeros, impl.poly.times, impl.poly.scaled by contracts. -/
import Derived.Test.YthklnfanbegecabHZ
import Derived.Test.YthklnfanbegecabHR
import Derived.Test.YthklnfanbegecabHN
import Derived.Test.YthklnfanbegecabHT
namespace Go.Proofs.Ythklnfanbegecab
open Go.RowKit
set_option maxHeartbeats 1000000 in
/-- impl.field.zeros. -/
theorem zerosE (q : Int) (N : Nat) (w : World) (h : isSz q = true) (hN : N ≤ 1000) :
    Calls Try.prog 87 #[fdE q, .int .i64 N] w fun e w' => ∃ g, e = .returned (.slice (some ⟨g, 0, none⟩) N N) ∧ w.heap.size ≤ g ∧ Blk w' g N ∧ Els w' g q (fun _ => 0) N ∧ Below w.heap.size w w' := by
  have HZ := Lib.hid (fun w => zeroE q w h)
  have HRP := Lib.hid (fun b cp w' (hb : b < w'.heap.size) (he : Els w' b q (fun _ => 0) 1) => repeatE q 0 b N cp w' hb he hN)
  have HONE : Hid (∀ (w1 w2 : World), w2 = w1.alloc (eblk q 0) → w1.heap.size < w2.heap.size ∧ Els w2 w1.heap.size q (fun _ => 0) 1) := Lib.hid fun w1 w2 hw => by
    subst hw
    obtain ⟨s0, s1, s2, s3, s4, s5, s6, _, hl⟩ := seven (heap_alloc_new w1 (eblk q 0))
    refine ⟨hl, fun j hj => ?_⟩
    obtain rfl : j = 0 := by omega
    exact ⟨s0, s1, s2, s3, s4, s5, s6⟩
  clear h
  go_enter Try.func87, Try.ntmps87
  go_wp2_with fail
  refine (HZ.out _).mono ?_
  rintro e w1 ⟨rfl, hb1⟩
  have hz_hb1 := hb1.size; (try simp at hz_hb1)
  have HB1 := Lib.hid hb1; clear hb1
  go_wp2_with fail
  refine (HRP.out _ _ _ (HONE.out w1 _ rfl).1 (HONE.out w1 _ rfl).2).mono ?_
  rintro e w2 ⟨g, rfl, hg, hk, he, hb2⟩
  simp at hg
  have HK := Lib.hid hk; clear hk
  have HE := Lib.hid he; clear he
  have HB2 := Lib.hid hb2; clear hb2
  go_wp2
  go_ret
  have hb1 := HB1.out
  have hb2 := HB2.out
  exact ⟨g, rfl, by omega, HK.out, HE.out, by (repeat' (first | (with_reducible assumption) | (with_reducible exact Below.refl _ _) | (with_reducible refine below_drewN ?_ _) | (with_reducible refine Below.drew ?_) | (with_reducible refine Below.alloc ?_ ?_ _) | (with_reducible refine Below.setCell ?_ ?_ _) | (with_reducible refine Below.trans ?_ (Below.mono (by assumption) ?_)) | (with_reducible exact Nat.le_refl _) | (with_reducible assumption) | omega | (simp; omega) | (simp; done)))⟩
/-- The memory of times. -/
structure TM (w0 wr : World) (q : Int) (v1 v2 : Value) (c : Nat → Int) (N g : Nat) : Prop where
  hp : wr.heap[w0.heap.size]? = some (pblk q v1)
  ho : wr.heap[w0.heap.size + 1]? = some (pblk q v2)
  hr : wr.heap[w0.heap.size + 2]? = some pzblk
  hk : Blk wr g N
  he : Els wr g q c N
  bel : Below w0.heap.size w0 wr
  lt : w0.heap.size + 2 < g
theorem TM.below {w0 wr w' : World} {q : Int} {v1 v2 : Value} {c : Nat → Int} {N g B : Nat} (h : TM w0 wr q v1 v2 c N g) (hb : Below B wr w') (hB : wr.heap.size ≤ B) : TM w0 w' q v1 v2 c N g := by
  have hg := h.hk.lt
  have hl := h.lt
  have hs := h.bel.size
  exact ⟨(hb.block _ (by omega)).trans h.hp, (hb.block _ (by omega)).trans h.ho, (hb.block _ (by omega)).trans h.hr, h.hk.below hb (by omega), h.he.below hb (by omega), h.bel.trans (hb.mono (by omega)), hl⟩
theorem TM.step {w0 wr : World} {q : Int} {v1 v2 : Value} {c : Nat → Int} {N g i : Nat} (h : TM w0 wr q v1 v2 c N g) (hi : i < N) (x : Int) : TM w0 (put7i wr g i q x) q v1 v2 (upd c i x) N g := by
  have hl := h.lt
  obtain ⟨he, hk⟩ := Els.put x h.hk hi (Nat.le_refl _) h.he
  exact ⟨(put7i_other _ _ _ _ _ _ (by omega)).trans h.hp, (put7i_other _ _ _ _ _ _ (by omega)).trans h.ho, (put7i_other _ _ _ _ _ _ (by omega)).trans h.hr, hk, he, put7i_below h.bel _ (by omega) _ _ _, hl⟩
theorem Els.over {w w' : World} {g R K : Nat} {q : Int} {f : Nat → Int} (he : Els w g q f K) (hR : w.heap[R]? = some pzblk) (hq : 2 ≤ q) (hw : ∀ k, k ≠ R → w'.heap[k]? = w.heap[k]?) : Els w' g q f K := by
  by_cases h0 : K = 0
  · subst h0
    exact fun j hj => by omega
  · refine he.same (hw g fun e => ?_)
    subst e
    have h1 := (he 0 (by omega)).1
    rw [Nat.zero_mul, (cells4 hR).1] at h1
    simp at h1
    omega
set_option maxRecDepth 100000 in
set_option maxHeartbeats 4000000 in
/-- impl.poly.times. -/
theorem timesPE (m n k : Nat) (v1 v2 : Value) (f g : Nat → Int) (w : World) (h : isSz (m : Int) = true) (hv1 : Se w v1 (m : Int) f n) (hv2 : Se w v2 (m : Int) g k) (hf : ∀ i, El (m : Int) (f i)) (hg : ∀ i, El (m : Int) (g i)) (hn : n ≤ 100) (hk : k ≤ 100) :
    Calls Try.prog 60 #[polyE (m : Int) v1, polyE (m : Int) v2] w fun e w' => ∃ g' cap, e = .returned (polyE (m : Int) (.slice (some ⟨g', 0, none⟩) (redn m (cou m f g k n) (n + k)) cap)) ∧ g' < w'.heap.size ∧ Els w' g' (m : Int) (redR m (cou m f g k n) (n + k)) (redn m (cou m f g k n) (n + k)) ∧ Below w.heap.size w w' := by
  have hq := isSz_le (m : Int) h
  have HZ := Lib.hid (fun w => zerosE (m : Int) (n + k) w h (by omega))
  have HT := Lib.hid (fun (i j : Nat) w => timesE (m : Int) (f i) (g j) w h (hf i).1 (hf i).2 (hg j).1 (hg j).2)
  have HCE : Hid (∀ i j x, El (m : Int) (cin m f g i (cou m f g k i) j x)) := Lib.hid fun i j x => cin_el h hf hg (cou_el h hf hg k i) i j x
  have HA := Lib.hid (fun (i j : Nat) w => plusE (m : Int) (cin m f g i (cou m f g k i) j (i + j)) (mulF m (f i) (g j)) w h (HCE.out i j _).1 (HCE.out i j _).2 ((hf i).mul h (hg j)).1 ((hf i).mul h (hg j)).2)
  have HRD := Lib.hid (fun v' w' (hs : Se w' v' (m : Int) (cou m f g k n) (n + k)) => reducedE m v' (cou m f g k n) (n + k) w' h hs (cou_el h hf hg k n) (by omega))
  obtain ⟨g1, cap1, rfl, hg1, he1⟩ := hv1
  obtain ⟨g2, cap2, rfl, hg2, he2⟩ := hv2
  have HE1 := Lib.hid (fun wr (hb : Below w.heap.size w wr) => he1.below hb hg1)
  have HE2 := Lib.hid (fun wr (hb : Below w.heap.size w wr) => he2.below hb hg2)
  clear hf hg h HCE he1 he2
  generalize hN : n + k = N at *
  have hN' : (n : Int) + (k : Int) = (N : Int) := by omega
  go_enter Try.func60, Try.ntmps60
  go_wp2_with fail
  refine (HZ.out _).mono ?_
  rintro e w1 ⟨gT, rfl, hgT, hk1, hz1, hb1⟩
  simp at hgT
  have htm : TM w w1 (m : Int) (.slice (some ⟨g1, 0, none⟩) n cap1) (.slice (some ⟨g2, 0, none⟩) k cap2) (cou m f g k 0) N gT := by
    have hb' : Below (w.heap.size + 3) (((w.alloc (pblk (m : Int) (.slice (some ⟨g1, 0, none⟩) n cap1))).alloc (pblk (m : Int) (.slice (some ⟨g2, 0, none⟩) k cap2))).alloc pzblk) w1 := hb1.mono (by simp)
    obtain ⟨t0, t1, t2⟩ := three w (pblk (m : Int) (.slice (some ⟨g1, 0, none⟩) n cap1)) (pblk (m : Int) (.slice (some ⟨g2, 0, none⟩) k cap2)) pzblk
    exact ⟨(hb'.block _ (by omega)).trans t0, (hb'.block _ (by omega)).trans t1, (hb'.block _ (by omega)).trans t2, hk1, hz1, by (repeat' (first | (with_reducible assumption) | (with_reducible exact Below.refl _ _) | (with_reducible refine below_drewN ?_ _) | (with_reducible refine Below.drew ?_) | (with_reducible refine Below.alloc ?_ ?_ _) | (with_reducible refine Below.setCell ?_ ?_ _) | (with_reducible refine Below.trans ?_ (Below.mono (by assumption) ?_)) | (with_reducible exact Nat.le_refl _) | (with_reducible assumption) | omega | (simp; omega) | (simp; done))), by omega⟩
  have HTM := Lib.hid htm
  clear htm hk1 hz1 hb1
  obtain ⟨p0, p1, p2, p3, pf, pl0⟩ := cells4 HTM.out.hp
  go_wp2_with fail
  clear p0 p1 p2 p3 pf pl0
  go_loopw [23] (fun vi wr => ∃ i : Nat, i ≤ n ∧ vi = .int .i64 i ∧ TM w wr (m : Int) (.slice (some ⟨g1, 0, none⟩) n cap1) (.slice (some ⟨g2, 0, none⟩) k cap2) (cou m f g k i) N gT) (fun vi _ => n - (intOf vi).toNat)
  case atStart => exact ⟨0, Nat.zero_le _, rfl, HTM.out⟩
  case round =>
    obtain ⟨i, hin, rfl, ht⟩ := hrel
    obtain ⟨p0, p1, p2, p3, pf, pl0⟩ := cells4 ht.hp
    obtain ⟨o0, o1, o2, o3, of, ol0⟩ := cells4 ht.ho
    obtain ⟨r0, r1, r2, r3, rf, rl0⟩ := cells4 ht.hr
    have hzb := ht.bel.size
    have hgl := ht.hk.lt
    have hgt := ht.lt
    by_cases hlt : i < n
    · obtain ⟨c0, c1, c2, c3, c4, c5, c6⟩ := (HE1.out _ ht.bel) i hlt
      have hg1l : g1 < wr.heap.size := by omega
      have HTT := Lib.hid ht; clear ht
      have HT' := Lib.hid (HT.out i)
      have HA' := Lib.hid (HA.out i)
      have HST : Hid (∀ j, cin m f g i (cou m f g k i) (j + 1) = upd (cin m f g i (cou m f g k i) j) (i + j) (addF m (cin m f g i (cou m f g k i) j (i + j)) (mulF m (f i) (g j)))) := Lib.hid fun _ => rfl
      have HEND : Hid (cin m f g i (cou m f g k i) k = cou m f g k (i + 1)) := Lib.hid rfl
      have HSTART : Hid (cou m f g k i = cin m f g i (cou m f g k i) 0) := Lib.hid rfl
      rw [HSTART.out] at HTT
      clear HSTART r0 r1 r2 r3 rf
      generalize hC : cin m f g i (cou m f g k i) = C at *
      generalize f i = u at *
      go_wp2_with fail
      have HT0 : Hid (TM w (wr.alloc (eblk (m : Int) u)) (m : Int) (.slice (some ⟨g1, 0, none⟩) n cap1) (.slice (some ⟨g2, 0, none⟩) k cap2) (C 0) N gT) := Lib.hid (HTT.out.below (B := wr.heap.size) (by (repeat' (first | (with_reducible assumption) | (with_reducible exact Below.refl _ _) | (with_reducible refine below_drewN ?_ _) | (with_reducible refine Below.drew ?_) | (with_reducible refine Below.alloc ?_ ?_ _) | (with_reducible refine Below.setCell ?_ ?_ _) | (with_reducible refine Below.trans ?_ (Below.mono (by assumption) ?_)) | (with_reducible exact Nat.le_refl _) | (with_reducible assumption) | omega | (simp; omega) | (simp; done)))) (Nat.le_refl _))
      have hC0 : (wr.alloc (eblk (m : Int) u)).heap[wr.heap.size]? = some (eblk (m : Int) u) := heap_alloc_new _ _
      have HC0 := Lib.hid hC0; clear hC0
      generalize wr.heap.size = S at *
      go_loopw [31] (fun vj ws => ∃ j : Nat, j ≤ k ∧ vj = .int .i64 j ∧ ws.heap[S]? = some (eblk (m : Int) u) ∧ TM w ws (m : Int) (.slice (some ⟨g1, 0, none⟩) n cap1) (.slice (some ⟨g2, 0, none⟩) k cap2) (C j) N gT) (fun vj _ => k - (intOf vj).toNat)
      case atStart => exact ⟨0, Nat.zero_le _, rfl, HC0.out, HT0.out⟩
      case round =>
        obtain ⟨j, hjk, rfl, hcb, ht⟩ := hrel
        obtain ⟨q0, q1, q2, q3, qf, ql0⟩ := cells4 ht.hp
        obtain ⟨v0, v1, v2, v3, vf, vl0⟩ := cells4 ht.ho
        obtain ⟨b0, b1, b2, b3, b4, b5, b6, bf, bl⟩ := seven hcb
        have hzs := ht.bel.size
        have hgs := ht.hk.lt
        by_cases hjlt : j < k
        · have hij : i + j < N := by omega
          obtain ⟨d0, d1, d2, d3, d4, d5, d6⟩ := (HE2.out _ ht.bel) j hjlt
          obtain ⟨e0, e1, e2, e3, e4, e5, e6⟩ := ht.he (i + j) hij
          have fr := ht.hk.free
          have hg2l : g2 < wr.heap.size := by omega
          have hT2 := Lib.hid (HT'.out j)
          have hA2 := Lib.hid (HA'.out j)
          have HUP := Lib.hid (HST.out j)
          have HTS := Lib.hid ht; clear ht
          have HCB := Lib.hid hcb; clear hcb
          have hz : (i : Int) + (j : Int) = ((i + j : Nat) : Int) := by omega
          have hsb : i + j ≤ 200 := by omega
          generalize hs : i + j = s at *
          have HSS := Lib.hid hs; clear hs
          have hij' : (s : Int) < (N : Int) := by omega
          have hwr : IntKind.i64.wrap (s : Int) = (s : Int) := by rw [IntKind.wrap_i64]; omega
          have hij2 : ¬ (N : Int) ≤ (s : Int) := by omega
          generalize C j s = y at *
          generalize g j = x at *
          generalize mulF m u x = z at *
          go_wp2_with fail
          go_region_with (first | (go_at_call 70; refine (hT2.out _).mono ?_; rintro e w2 ⟨rfl, hb2⟩; obtain ⟨hc2, hf2⟩ := bcell hb2; (try simp only [World.size_drew] at hc2 hf2); have hz2 := hb2.size; (try simp at hz2); have HB2 := Lib.hid hb2; clear hb2; have l2 : gT < w2.heap.size := (by omega); have l2' : S < w2.heap.size := (by omega)) | (go_at_call 71; refine (hA2.out _).mono ?_; rintro e w3 ⟨rfl, hb3⟩; obtain ⟨hc3, hf3⟩ := bcell hb3; (try simp only [World.size_drew] at hc3 hf3); have hz3 := hb3.size; (try simp at hz3); have HB3 := Lib.hid hb3; clear hb3; have l3 : gT < w3.heap.size := (by omega); have l3' : S < w3.heap.size := (by omega)))
          all_goals
            go_wp2
            go_roundw
            case rel =>
              have hb2 := HB2.out
              have hb3 := HB3.out
              have hbw : Below wr.heap.size wr w3 := by (repeat' (first | (with_reducible assumption) | (with_reducible exact Below.refl _ _) | (with_reducible refine below_drewN ?_ _) | (with_reducible refine Below.drew ?_) | (with_reducible refine Below.alloc ?_ ?_ _) | (with_reducible refine Below.setCell ?_ ?_ _) | (with_reducible refine Below.trans ?_ (Below.mono (by assumption) ?_)) | (with_reducible exact Nat.le_refl _) | (with_reducible assumption) | omega | (simp; omega) | (simp; done)))
              have t2 := (HTS.out.below hbw (Nat.le_refl _)).step hij (addF m y z)
              refine ⟨j + 1, by omega, by go_num, ?_, ?_⟩
              · exact (put7i_other _ _ _ _ _ _ (by omega)).trans ((hbw.block _ bl).trans HCB.out)
              · rw [HUP.out]
                exact t2
            case measure => (simp [intOf]; try omega)
        · obtain rfl : k = j := by omega
          rw [HEND.out] at ht
          have HTS := Lib.hid ht; clear ht
          go_wp2
          go_roundw
          case rel => exact ⟨i + 1, by omega, by go_num, HTS.out⟩
          case measure => (simp [intOf]; try omega)
    · obtain rfl : n = i := by omega
      have HTT := Lib.hid ht; clear ht
      go_wp2_with fail
      refine (HRD.out _ _ ⟨gT, N, rfl, hgl, HTT.out.he⟩).mono ?_
      rintro e w2 ⟨g3, cap3, rfl, hg3, he3, hb2⟩
      have ht2 := HTT.out.below hb2 (Nat.le_refl _)
      clear r0 r1 r2 r3 rf rl0 p0 p1 p2 p3 pf pl0 o0 o1 o2 o3 of ol0
      obtain ⟨r0, r1, r2, r3, rf, rl0⟩ := cells4 ht2.hr
      have HT2 := Lib.hid ht2; clear ht2
      have HE3 := Lib.hid he3; clear he3
      have HB2 := Lib.hid hb2; clear hb2
      go_wp2_with fail
      refine bodyPost_ret (v := polyE (m : Int) (.slice (some ⟨g3, 0, none⟩) (redn m (cou m f g k n) N) cap3)) (by simp [results, Try.results60, go_sem, r0, r1, r2, r3]) rfl ⟨g3, cap3, rfl, by simp; omega, ?_, ?_⟩
      · exact HE3.out.over HT2.out.hr (by omega) (fun k hk => put4_other _ _ _ _ _ hk)
      · have hb0 := HT2.out.bel
        (repeat' (first | (with_reducible assumption) | (with_reducible exact Below.refl _ _) | (with_reducible refine below_drewN ?_ _) | (with_reducible refine Below.drew ?_) | (with_reducible refine Below.alloc ?_ ?_ _) | (with_reducible refine Below.setCell ?_ ?_ _) | (with_reducible refine Below.trans ?_ (Below.mono (by assumption) ?_)) | (with_reducible exact Nat.le_refl _) | (with_reducible assumption) | omega | (simp; omega) | (simp; done)))
set_option maxHeartbeats 4000000 in
/-- impl.poly.scaled. -/
theorem scaledPE (m n : Nat) (a : Int) (v : Value) (f : Nat → Int) (w : World) (h : isSz (m : Int) = true) (hv : Se w v (m : Int) f n) (hf : ∀ i, El (m : Int) (f i)) (ha : El (m : Int) a) (hn : n ≤ 100) :
    Calls Try.prog 47 #[polyE (m : Int) v, elE (m : Int) a] w fun e w' => ∃ g' cap, e = .returned (polyE (m : Int) (.slice (some ⟨g', 0, none⟩) (redn m (fun i => mulF m a (f i)) n) cap)) ∧ g' < w'.heap.size ∧ Els w' g' (m : Int) (redR m (fun i => mulF m a (f i)) n) (redn m (fun i => mulF m a (f i)) n) ∧ Below w.heap.size w w' := by
  have hq := isSz_le (m : Int) h
  have HM := Lib.hid (fun w' (hb : Below w.heap.size w w') => mapped_times (m : Int) (elE (m : Int) a) v f (fun i => mulF m a (f i)) n w' (hv.below hb (Nat.le_refl _)) (by omega) (fun i hi w'' _ => timesE (m : Int) a (f i) w'' h ha.1 ha.2 (hf i).1 (hf i).2))
  have HRD := Lib.hid (fun v' w' (hs : Se w' v' (m : Int) (fun i => mulF m a (f i)) n) => reducedE m v' (fun i => mulF m a (f i)) n w' h hs (fun i => ha.mul h (hf i)) (by omega))
  obtain ⟨g1, cap1, rfl, hg1, he1⟩ := hv
  clear hf h ha he1
  generalize (fun i => mulF m a (f i)) = F at *
  generalize redn m F n = K at *
  generalize redR m F n = R at *
  go_enter Try.func47, Try.ntmps47
  go_wp2_with fail
  go_region_with (first | (go_at_call 75; refine (HM.out _ (by (repeat' (first | (with_reducible assumption) | (with_reducible exact Below.refl _ _) | (with_reducible refine below_drewN ?_ _) | (with_reducible refine Below.drew ?_) | (with_reducible refine Below.alloc ?_ ?_ _) | (with_reducible refine Below.setCell ?_ ?_ _) | (with_reducible refine Below.trans ?_ (Below.mono (by assumption) ?_)) | (with_reducible exact Nat.le_refl _) | (with_reducible assumption) | omega | (simp; omega) | (simp; done))))).mono ?_; rintro e w3 ⟨g3, rfl, hg3, hk3, he3, hb3⟩; have HSE3 : Hid (Se w3 (.slice (some ⟨g3, 0, none⟩) n n) (m : Int) F n) := Lib.hid ⟨g3, _, rfl, hk3.lt, he3⟩; clear hk3 he3; obtain ⟨hc3, hf3⟩ := bcell hb3; (try simp only [World.size_drew] at hc3 hf3); have hz3 := hb3.size; (try simp at hz3); have HB3 := Lib.hid hb3; clear hb3; have l3 : w.heap.size + 2 < w3.heap.size := (by omega)) | (go_at_call 57; refine (HRD.out _ _ HSE3.out).mono ?_; rintro e w4 ⟨g4, cp4, rfl, hg4, he4, hb4⟩; have HE4 := Lib.hid he4; clear he4; obtain ⟨hc4, hf4⟩ := bcell hb4; (try simp only [World.size_drew] at hc4 hf4); have hz4 := hb4.size; (try simp at hz4); have HB4 := Lib.hid hb4; clear hb4; have l4 : w.heap.size + 2 < w4.heap.size := (by omega)))
  all_goals
    go_wp2_with fail
    have hb3 := HB3.out
    have hb4 := HB4.out
    have hr : w4.heap[w.heap.size + 2]? = some pzblk := (Below.block (B := w.heap.size + 3) (w := ((w.alloc (pblk (m : Int) (.slice (some ⟨g1, 0, none⟩) n cap1))).alloc (eblk (m : Int) a)).alloc pzblk) (by (repeat' (first | (with_reducible assumption) | (with_reducible exact Below.refl _ _) | (with_reducible refine below_drewN ?_ _) | (with_reducible refine Below.drew ?_) | (with_reducible refine Below.alloc ?_ ?_ _) | (with_reducible refine Below.setCell ?_ ?_ _) | (with_reducible refine Below.trans ?_ (Below.mono (by assumption) ?_)) | (with_reducible exact Nat.le_refl _) | (with_reducible assumption) | omega | (simp; omega) | (simp; done)))) (w.heap.size + 2) (by omega)).trans (three w (pblk (m : Int) (.slice (some ⟨g1, 0, none⟩) n cap1)) (eblk (m : Int) a) pzblk).2.2
    obtain ⟨r0, r1, r2, r3, rf, rl0⟩ := cells4 hr
    refine bodyPost_ret (v := polyE (m : Int) (.slice (some ⟨g4, 0, none⟩) K cp4)) (by simp [results, Try.results47, go_sem, r0, r1, r2, r3]) rfl ⟨g4, cp4, rfl, by simp; omega, ?_, ?_⟩
    · exact HE4.out.over hr (by omega) (fun k hk => by (repeat' (first | (with_reducible rfl) | (with_reducible refine (heap_setCell_other _ _ _ _ ?_).trans ?_) | (with_reducible refine (drew_heap' _ _).trans ?_) | exact hk)))
    · (repeat' (first | (with_reducible assumption) | (with_reducible exact Below.refl _ _) | (with_reducible refine below_drewN ?_ _) | (with_reducible refine Below.drew ?_) | (with_reducible refine Below.alloc ?_ ?_ _) | (with_reducible refine Below.setCell ?_ ?_ _) | (with_reducible refine Below.trans ?_ (Below.mono (by assumption) ?_)) | (with_reducible exact Nat.le_refl _) | (with_reducible assumption) | omega | (simp; omega) | (simp; done)))
end Go.Proofs.Ythklnfanbegecab
