/- impl.field.reduced and impl.poly.scaled make new memory; impl.poly.monic, by contracts. -/
import Derived.Test.YtimpgbifnijkkaaTD
import Derived.Test.YtimpgbifnijkkaaKN
import Derived.Test.YtimpgbifnijkkaaKG
import Derived.Deep.RegionHeld3
namespace Go.Proofs.Ytimpgbifnijkkaa
open Go.RowKit
set_option maxHeartbeats 4000000 in
/-- impl.field.reduced. -/
theorem reducedF (m : Nat) (v : Value) (c : Nat → Int) (n : Nat) (w : World) (h : isSz (m : Int) = true) (hv : Se w v (m : Int) c n) (hc : ∀ i, El (m : Int) (c i)) (hn : n ≤ 1000) :
    Calls Try.prog 104 #[fdE (m : Int), v] w fun e w' => ∃ g cap, e = .returned (polyE (m : Int) (.slice (some ⟨g, 0, none⟩) (redn m c n) cap)) ∧ w.heap.size ≤ g ∧ g < w'.heap.size ∧ Els w' g (m : Int) (redR m c n) (redn m c n) ∧ Below w.heap.size w w' := by
  have hq := isSz_le (m : Int) h
  obtain ⟨hlast, hsn⟩ := redT_last m c h hc n
  have HLAST := Lib.hid hlast; clear hlast
  have HSN := Lib.hid hsn; clear hsn
  have HCL := Lib.hid (fun w' (hb : Below w.heap.size w w') => cloneE (m : Int) v c n w' (hv.below hb (Nat.le_refl _)) hn)
  have HEL := Lib.hid (redT_el m c h hc n)
  have HA := Lib.hid (fun (s j k : Nat) w => plusE (m : Int) (redT m c n s j) (redT m c n s k) w h (redT_el m c h hc n s j).1 (redT_el m c h hc n s j).2 (redT_el m c h hc n s k).1 (redT_el m c h hc n s k).2)
  have HZ := Lib.hid (fun (s j : Nat) w => isZeroE (m : Int) (redT m c n s j) w h (redT_el m c h hc n s j).1 (redT_el m c h hc n s j).2)
  obtain ⟨g0, cp0, rfl, hg0, he0⟩ := hv
  clear h hc he0
  go_enter Try.func104, Try.ntmps104
  go_wp2_with fail
  refine (HCL.out _ (by (repeat' (first | (with_reducible assumption) | (with_reducible exact Below.refl _ _) | (with_reducible refine below_drewN ?_ _) | (with_reducible refine Below.drew ?_) | (with_reducible refine Below.alloc ?_ ?_ _) | (with_reducible refine Below.setCell ?_ ?_ _) | (with_reducible refine Below.trans ?_ (Below.mono (by assumption) ?_)) | (with_reducible exact Nat.le_refl _) | (with_reducible assumption) | omega | (simp; omega) | (simp; done))))).mono ?_
  rintro e w1 ⟨g, cap, rfl, hcap, hg, hk1, he1, hb1⟩
  simp at hg
  have htr : TR w w1 (m : Int) (redT m c n 0) n cap g := by
    refine ⟨?_, ?_, hk1, he1, by (repeat' (first | (with_reducible assumption) | (with_reducible exact Below.refl _ _) | (with_reducible refine below_drewN ?_ _) | (with_reducible refine Below.drew ?_) | (with_reducible refine Below.alloc ?_ ?_ _) | (with_reducible refine Below.setCell ?_ ?_ _) | (with_reducible refine Below.trans ?_ (Below.mono (by assumption) ?_)) | (with_reducible exact Nat.le_refl _) | (with_reducible assumption) | omega | (simp; omega) | (simp; done))), by omega⟩
    · rw [hb1.block _ (by simp; omega), Below.heap_alloc _ _ _ (by simp), heap_alloc_new]
    · rw [hb1.block _ (by simp), show w.heap.size + 1 = (w.alloc (ffblk (m : Int))).heap.size from by simp, heap_alloc_new]
  have HTR := Lib.hid htr
  clear htr hk1 he1 hb1
  go_wp2_with fail
  go_loopw [5] (fun vi wr => ∃ s : Nat, (s + m ≤ n ∨ s = 0) ∧ vi = .int .i64 ((n : Int) - 1 - (s : Int)) ∧ TR w wr (m : Int) (redT m c n s) n cap g) (fun vi _ => (intOf vi + 1).toNat)
  case atStart => exact ⟨0, .inr rfl, by simp, HTR.out⟩
  case round =>
    obtain ⟨s, hs, rfl, ht⟩ := hrel
    obtain ⟨f0, f1, f2, ff, fl0⟩ := cells3' ht.hf
    have hgl := ht.hk.lt
    by_cases hlt : s + m + 1 ≤ n
    · have hz : ((n : Int) - 1 - (s : Int)) = ((n - 1 - s : Nat) : Int) := by omega
      have hz2 : (((n - 1 - s : Nat) : Int) - (m : Int) + 1) = ((n - 1 - s - m + 1 : Nat) : Int) := by omega
      obtain ⟨c0, c1, c2, c3, c4, c5, c6⟩ := ht.he (n - 1 - s) (by omega)
      obtain ⟨d0, d1, d2, d3, d4, d5, d6⟩ := ht.he (n - 1 - s - m + 1) (by omega)
      have fr := ht.hk.free
      have HT := Lib.hid ht; clear ht
      have HA' := Lib.hid (HA.out s (n - 1 - s - m + 1) (n - 1 - s))
      have HUP : Hid (redT m c n (s + 1) = upd (redT m c n s) (n - 1 - s - m + 1) (addF m (redT m c n s (n - 1 - s - m + 1)) (redT m c n s (n - 1 - s)))) := Lib.hid rfl
      have hlo : n - 1 - s - m + 1 < n := by omega
      have hhi : n - 1 - s < n := by omega
      have hge : (m : Int) ≤ ((n - 1 - s : Nat) : Int) := by omega
      rw [hz]
      generalize hkk : n - 1 - s = k at *
      generalize hll : k - m + 1 = lo at *
      have HKK := Lib.hid hkk; clear hkk
      have HLL := Lib.hid hll; clear hll hz
      generalize redT m c n s lo = y at *
      generalize redT m c n s k = x at *
      go_wp2_with fail
      go_region_with (go_at_call 77; refine (HA'.out _).mono ?_; rintro e w2 ⟨rfl, hb2⟩; obtain ⟨hc2, hf2⟩ := bcell hb2; (try simp only [World.size_drew] at hc2 hf2); have hz2 := hb2.size; (try simp at hz2); have HB2 := Lib.hid hb2; clear hb2; have l2 : g < w2.heap.size := (by omega))
      all_goals
        go_wp2
        go_roundw
        case rel =>
          have hb2 := HB2.out
          have hkk := HKK.out
          have t2 := (HT.out.below (B := wr.heap.size) (w' := w2) (by (repeat' (first | (with_reducible assumption) | (with_reducible exact Below.refl _ _) | (with_reducible refine below_drewN ?_ _) | (with_reducible refine Below.drew ?_) | (with_reducible refine Below.alloc ?_ ?_ _) | (with_reducible refine Below.setCell ?_ ?_ _) | (with_reducible refine Below.trans ?_ (Below.mono (by assumption) ?_)) | (with_reducible exact Nat.le_refl _) | (with_reducible assumption) | omega | (simp; omega) | (simp; done)))) (Nat.le_refl _)).step hlo hcap (addF (m : Int) y x)
          refine ⟨s + 1, by omega, by rw [← hkk]; exact congrArg (Value.int .i64) (by omega), ?_⟩
          rw [HUP.out]
          exact t2
        case measure => (simp [intOf]; try omega)
    · have hs2 : s = n - m := by omega
      subst hs2
      have hge : ¬ (m : Int) ≤ (n : Int) - 1 - ((n - m : Nat) : Int) := by omega
      have HT := Lib.hid ht; clear ht
      have hmin : ∀ (a b : Nat), a ≤ b → min a b = a := fun a b h => Nat.min_eq_left h
      generalize hg : redT m c n (n - m) = T at *
      have HGT := Lib.hid hg; clear hg
      by_cases hnm : n ≤ m
      · have hnm' : ¬ (m : Int) < (n : Int) := by omega
        have HRN : Hid (sn T n = redn m c n) := Lib.hid (by have e1 := HSN.out; rw [show min n m = n by omega] at e1; exact e1)
        have HTE : Hid (∀ j, j < n → T j = redR m c n j) := Lib.hid fun j hj => HLAST.out j (by omega)
        have HZT : Hid (∀ j w, Calls Try.prog 76 #[elE (m : Int) (T j)] w fun e w' => e = .returned (.bool (decide (T j = 0))) ∧ Below w.heap.size w w') := Lib.hid (by have e1 := HZ.out (n - m); rw [HGT.out] at e1; exact e1)
        have hKn : n ≤ n := by omega
        go_wp2_with fail
        go_loopw [7] (fun vk ws => ∃ k : Nat, k ≤ n ∧ vk = .int .i64 k ∧ sn T k = sn T n ∧ TR w ws (m : Int) T n cap g) (fun vk _ => (intOf vk).toNat)
        case atStart => exact ⟨n, Nat.le_refl _, rfl, rfl, HT.out⟩
        case round =>
          obtain ⟨k, hk, rfl, hsk, ht⟩ := hrel
          have hFIN : sn T n = k → Hid (k = redn m c n) := fun e => Lib.hid (by rw [← HRN.out, e])
          obtain ⟨f0, f1, f2, ff, fl0⟩ := cells3' ht.hf
          obtain ⟨r0, r1, r2, r3, rf, rl0⟩ := cells4 ht.hr
          have hgl := ht.hk.lt
          by_cases h0 : k = 0
          · subst h0
            have HFN := hFIN hsk.symm
            clear hFIN hsk
            have HTT := Lib.hid ht; clear ht
            have hb0 := HTT.out.bel
            go_wp2_with fail
            go_region
            all_goals
              go_wp2_with fail
              refine bodyPost_ret (v := polyE (m : Int) (.slice (some ⟨g, 0, none⟩) 0 cap)) (by simp [results, Try.results104, go_sem, r0, r1, r2, r3]) rfl ⟨g, cap, by rw [← HFN.out], by omega, by simp; omega, ?_, ?_⟩
              · rw [← HFN.out]
                exact fun i hi => by omega
              · (repeat' (first | (with_reducible assumption) | (with_reducible exact Below.refl _ _) | (with_reducible refine below_drewN ?_ _) | (with_reducible refine Below.drew ?_) | (with_reducible refine Below.alloc ?_ ?_ _) | (with_reducible refine Below.setCell ?_ ?_ _) | (with_reducible refine Below.trans ?_ (Below.mono (by assumption) ?_)) | (with_reducible exact Nat.le_refl _) | (with_reducible assumption) | omega | (simp; omega) | (simp; done)))
          · obtain ⟨j, rfl⟩ : ∃ j, k = j + 1 := ⟨k - 1, by omega⟩
            obtain ⟨c0, c1, c2, c3, c4, c5, c6⟩ := ht.he j (by omega)
            have hz : (((j + 1 : Nat) : Int) - 1) = (j : Int) := by omega
            have hpos : (0 : Int) < ((j + 1 : Nat) : Int) := by omega
            have hjn : j < n := by omega
            have HZJ := Lib.hid (HZT.out j)
            by_cases hu : T j = 0
            · have HS2 : Hid (sn T j = sn T n) := Lib.hid (by rw [← hsk, sn_go' hu])
              have hd : decide (T j = 0) = true := decide_eq_true hu
              have HTT := Lib.hid ht; clear ht hFIN hsk
              rw [hd] at HZJ
              clear hu hd
              generalize T j = u at *
              go_wp2_with fail
              refine (HZJ.out _).mono ?_
              rintro e w2 ⟨rfl, hb2⟩
              have HT2 := Lib.hid (HTT.out.below hb2 (Nat.le_refl _)); clear hb2
              go_wp2
              go_roundw
              case rel => exact ⟨j, by omega, by go_num, HS2.out, HT2.out⟩
              case measure => (simp [intOf]; try omega)
            · have hd : decide (T j = 0) = false := decide_eq_false hu
              have e : sn T n = j + 1 := by rw [← hsk, sn_stop' hu]
              have HFN := hFIN e
              have HTT := Lib.hid ht; clear ht hFIN hsk e
              rw [hd] at HZJ
              clear hu hd
              generalize T j = u at *
              go_wp2_with fail
              refine (HZJ.out _).mono ?_
              rintro e w2 ⟨rfl, hb2⟩
              have hz2 := hb2.size
              have HT2 := Lib.hid (HTT.out.below hb2 (Nat.le_refl _))
              obtain ⟨hc2, hf2⟩ := bcell hb2; have hz2 := hb2.size; (try simp at hz2); have HB2 := Lib.hid hb2; clear hb2
              clear r0 r1 r2 r3 rf rl0 f0 f1 f2 ff fl0
              obtain ⟨f0, f1, f2, ff, fl0⟩ := cells3' HT2.out.hf
              obtain ⟨r0, r1, r2, r3, rf, rl0⟩ := cells4 HT2.out.hr
              have hb0 := HT2.out.bel
              have hlt2 := HT2.out.lt
              have hgl2 := HT2.out.hk.lt
              have HH := Lib.hid HT2.out.he
              have hkc : ((j + 1 : Nat) : Int) ≤ (cap : Int) := by omega
              clear hc2 hf2
              go_wp2_with fail
              go_region
              all_goals
                go_wp2_with fail
                refine bodyPost_ret (v := polyE (m : Int) (.slice (some ⟨g, 0, none⟩) (j + 1) cap)) (by simp [results, Try.results104, go_sem, r0, r1, r2, r3]) rfl ⟨g, cap, by rw [← HFN.out], by omega, by simp; omega, ?_, ?_⟩
                · rw [← HFN.out]
                  refine (show ∀ W : World, W.heap[g]? = w2.heap[g]? → Els W g (m : Int) (redR m c n) (j + 1) from fun W hW i hi => by rw [← HTE.out i (by omega)]; exact (HH.out.same hW) i (by omega)) _ ?_
                  (repeat' (first | (with_reducible rfl) | omega | (with_reducible refine (heap_setCell_other _ _ _ _ ?_).trans ?_) | (with_reducible refine (Below.heap_alloc _ _ _ ?_).trans ?_) | (with_reducible refine (drew_heap' _ _).trans ?_) | (simp; omega)))
                · (repeat' (first | (with_reducible assumption) | (with_reducible exact Below.refl _ _) | (with_reducible refine below_drewN ?_ _) | (with_reducible refine Below.drew ?_) | (with_reducible refine Below.alloc ?_ ?_ _) | (with_reducible refine Below.setCell ?_ ?_ _) | (with_reducible refine Below.trans ?_ (Below.mono (by assumption) ?_)) | (with_reducible exact Nat.le_refl _) | (with_reducible assumption) | omega | (simp; omega) | (simp; done)))
      · have hnm' : (m : Int) < (n : Int) := by omega
        have HRN : Hid (sn T m = redn m c n) := Lib.hid (by have e1 := HSN.out; rw [show min n m = m by omega] at e1; exact e1)
        have HTE : Hid (∀ j, j < m → T j = redR m c n j) := Lib.hid fun j hj => HLAST.out j (by omega)
        have HZT : Hid (∀ j w, Calls Try.prog 76 #[elE (m : Int) (T j)] w fun e w' => e = .returned (.bool (decide (T j = 0))) ∧ Below w.heap.size w w') := Lib.hid (by have e1 := HZ.out (n - m); rw [HGT.out] at e1; exact e1)
        have hKn : m ≤ n := by omega
        go_wp2_with fail
        go_loopw [7] (fun vk ws => ∃ k : Nat, k ≤ m ∧ vk = .int .i64 k ∧ sn T k = sn T m ∧ TR w ws (m : Int) T n cap g) (fun vk _ => (intOf vk).toNat)
        case atStart => exact ⟨m, Nat.le_refl _, rfl, rfl, HT.out⟩
        case round =>
          obtain ⟨k, hk, rfl, hsk, ht⟩ := hrel
          have hFIN : sn T m = k → Hid (k = redn m c n) := fun e => Lib.hid (by rw [← HRN.out, e])
          obtain ⟨f0, f1, f2, ff, fl0⟩ := cells3' ht.hf
          obtain ⟨r0, r1, r2, r3, rf, rl0⟩ := cells4 ht.hr
          have hgl := ht.hk.lt
          by_cases h0 : k = 0
          · subst h0
            have HFN := hFIN hsk.symm
            clear hFIN hsk
            have HTT := Lib.hid ht; clear ht
            have hb0 := HTT.out.bel
            go_wp2_with fail
            go_region
            all_goals
              go_wp2_with fail
              refine bodyPost_ret (v := polyE (m : Int) (.slice (some ⟨g, 0, none⟩) 0 cap)) (by simp [results, Try.results104, go_sem, r0, r1, r2, r3]) rfl ⟨g, cap, by rw [← HFN.out], by omega, by simp; omega, ?_, ?_⟩
              · rw [← HFN.out]
                exact fun i hi => by omega
              · (repeat' (first | (with_reducible assumption) | (with_reducible exact Below.refl _ _) | (with_reducible refine below_drewN ?_ _) | (with_reducible refine Below.drew ?_) | (with_reducible refine Below.alloc ?_ ?_ _) | (with_reducible refine Below.setCell ?_ ?_ _) | (with_reducible refine Below.trans ?_ (Below.mono (by assumption) ?_)) | (with_reducible exact Nat.le_refl _) | (with_reducible assumption) | omega | (simp; omega) | (simp; done)))
          · obtain ⟨j, rfl⟩ : ∃ j, k = j + 1 := ⟨k - 1, by omega⟩
            obtain ⟨c0, c1, c2, c3, c4, c5, c6⟩ := ht.he j (by omega)
            have hz : (((j + 1 : Nat) : Int) - 1) = (j : Int) := by omega
            have hpos : (0 : Int) < ((j + 1 : Nat) : Int) := by omega
            have hjn : j < n := by omega
            have HZJ := Lib.hid (HZT.out j)
            by_cases hu : T j = 0
            · have HS2 : Hid (sn T j = sn T m) := Lib.hid (by rw [← hsk, sn_go' hu])
              have hd : decide (T j = 0) = true := decide_eq_true hu
              have HTT := Lib.hid ht; clear ht hFIN hsk
              rw [hd] at HZJ
              clear hu hd
              generalize T j = u at *
              go_wp2_with fail
              refine (HZJ.out _).mono ?_
              rintro e w2 ⟨rfl, hb2⟩
              have HT2 := Lib.hid (HTT.out.below hb2 (Nat.le_refl _)); clear hb2
              go_wp2
              go_roundw
              case rel => exact ⟨j, by omega, by go_num, HS2.out, HT2.out⟩
              case measure => (simp [intOf]; try omega)
            · have hd : decide (T j = 0) = false := decide_eq_false hu
              have e : sn T m = j + 1 := by rw [← hsk, sn_stop' hu]
              have HFN := hFIN e
              have HTT := Lib.hid ht; clear ht hFIN hsk e
              rw [hd] at HZJ
              clear hu hd
              generalize T j = u at *
              go_wp2_with fail
              refine (HZJ.out _).mono ?_
              rintro e w2 ⟨rfl, hb2⟩
              have hz2 := hb2.size
              have HT2 := Lib.hid (HTT.out.below hb2 (Nat.le_refl _))
              obtain ⟨hc2, hf2⟩ := bcell hb2; have hz2 := hb2.size; (try simp at hz2); have HB2 := Lib.hid hb2; clear hb2
              clear r0 r1 r2 r3 rf rl0 f0 f1 f2 ff fl0
              obtain ⟨f0, f1, f2, ff, fl0⟩ := cells3' HT2.out.hf
              obtain ⟨r0, r1, r2, r3, rf, rl0⟩ := cells4 HT2.out.hr
              have hb0 := HT2.out.bel
              have hlt2 := HT2.out.lt
              have hgl2 := HT2.out.hk.lt
              have HH := Lib.hid HT2.out.he
              have hkc : ((j + 1 : Nat) : Int) ≤ (cap : Int) := by omega
              clear hc2 hf2
              go_wp2_with fail
              go_region
              all_goals
                go_wp2_with fail
                refine bodyPost_ret (v := polyE (m : Int) (.slice (some ⟨g, 0, none⟩) (j + 1) cap)) (by simp [results, Try.results104, go_sem, r0, r1, r2, r3]) rfl ⟨g, cap, by rw [← HFN.out], by omega, by simp; omega, ?_, ?_⟩
                · rw [← HFN.out]
                  refine (show ∀ W : World, W.heap[g]? = w2.heap[g]? → Els W g (m : Int) (redR m c n) (j + 1) from fun W hW i hi => by rw [← HTE.out i (by omega)]; exact (HH.out.same hW) i (by omega)) _ ?_
                  (repeat' (first | (with_reducible rfl) | omega | (with_reducible refine (heap_setCell_other _ _ _ _ ?_).trans ?_) | (with_reducible refine (Below.heap_alloc _ _ _ ?_).trans ?_) | (with_reducible refine (drew_heap' _ _).trans ?_) | (simp; omega)))
                · (repeat' (first | (with_reducible assumption) | (with_reducible exact Below.refl _ _) | (with_reducible refine below_drewN ?_ _) | (with_reducible refine Below.drew ?_) | (with_reducible refine Below.alloc ?_ ?_ _) | (with_reducible refine Below.setCell ?_ ?_ _) | (with_reducible refine Below.trans ?_ (Below.mono (by assumption) ?_)) | (with_reducible exact Nat.le_refl _) | (with_reducible assumption) | omega | (simp; omega) | (simp; done)))
set_option maxHeartbeats 4000000 in
/-- impl.poly.scaled. -/
theorem scaledPF (m n : Nat) (a : Int) (v : Value) (f : Nat → Int) (w : World) (h : isSz (m : Int) = true) (hv : Se w v (m : Int) f n) (hf : ∀ i, El (m : Int) (f i)) (ha : El (m : Int) a) (hn : n ≤ 100) :
    Calls Try.prog 98 #[polyE (m : Int) v, elE (m : Int) a] w fun e w' => ∃ g' cap, e = .returned (polyE (m : Int) (.slice (some ⟨g', 0, none⟩) (redn m (fun i => mulF m a (f i)) n) cap)) ∧ w.heap.size ≤ g' ∧ g' < w'.heap.size ∧ Els w' g' (m : Int) (redR m (fun i => mulF m a (f i)) n) (redn m (fun i => mulF m a (f i)) n) ∧ Below w.heap.size w w' := by
  have hq := isSz_le (m : Int) h
  have HM := Lib.hid (fun w' (hb : Below w.heap.size w w') => mapped_times (m : Int) (elE (m : Int) a) v f (fun i => mulF m a (f i)) n w' (hv.below hb (Nat.le_refl _)) (by omega) (fun i hi w'' _ => timesE (m : Int) a (f i) w'' h ha.1 ha.2 (hf i).1 (hf i).2))
  have HRD := Lib.hid (fun v' w' (hs : Se w' v' (m : Int) (fun i => mulF m a (f i)) n) => reducedF m v' (fun i => mulF m a (f i)) n w' h hs (fun i => ha.mul h (hf i)) (by omega))
  obtain ⟨g1, cap1, rfl, hg1, he1⟩ := hv
  clear hf h ha he1
  generalize (fun i => mulF m a (f i)) = F at *
  generalize redn m F n = K at *
  generalize redR m F n = R at *
  go_enter Try.func98, Try.ntmps98
  go_wp2_with fail
  go_region_with (first | (go_at_call 131; refine (HM.out _ (by (repeat' (first | (with_reducible assumption) | (with_reducible exact Below.refl _ _) | (with_reducible refine below_drewN ?_ _) | (with_reducible refine Below.drew ?_) | (with_reducible refine Below.alloc ?_ ?_ _) | (with_reducible refine Below.setCell ?_ ?_ _) | (with_reducible refine Below.trans ?_ (Below.mono (by assumption) ?_)) | (with_reducible exact Nat.le_refl _) | (with_reducible assumption) | omega | (simp; omega) | (simp; done))))).mono ?_; rintro e w3 ⟨g3, rfl, hg3, hk3, he3, hb3⟩; have HSE3 : Hid (Se w3 (.slice (some ⟨g3, 0, none⟩) n n) (m : Int) F n) := Lib.hid ⟨g3, _, rfl, hk3.lt, he3⟩; clear hk3 he3; obtain ⟨hc3, hf3⟩ := bcell hb3; (try simp only [World.size_drew] at hc3 hf3); have hz3 := hb3.size; (try simp at hz3); have HB3 := Lib.hid hb3; clear hb3; have l3 : w.heap.size + 2 < w3.heap.size := (by omega)) | (go_at_call 104; refine (HRD.out _ _ HSE3.out).mono ?_; rintro e w4 ⟨g4, cp4, rfl, hlo4, hg4, he4, hb4⟩; have HE4 := Lib.hid he4; clear he4; obtain ⟨hc4, hf4⟩ := bcell hb4; (try simp only [World.size_drew] at hc4 hf4); have hz4 := hb4.size; (try simp at hz4); have HB4 := Lib.hid hb4; clear hb4; have l4 : w.heap.size + 2 < w4.heap.size := (by omega)))
  all_goals
    go_wp2_with fail
    have hb3 := HB3.out
    have hb4 := HB4.out
    have hr : w4.heap[w.heap.size + 2]? = some pzblk := (Below.block (B := w.heap.size + 3) (w := ((w.alloc (pblk (m : Int) (.slice (some ⟨g1, 0, none⟩) n cap1))).alloc (eblk (m : Int) a)).alloc pzblk) (by (repeat' (first | (with_reducible assumption) | (with_reducible exact Below.refl _ _) | (with_reducible refine below_drewN ?_ _) | (with_reducible refine Below.drew ?_) | (with_reducible refine Below.alloc ?_ ?_ _) | (with_reducible refine Below.setCell ?_ ?_ _) | (with_reducible refine Below.trans ?_ (Below.mono (by assumption) ?_)) | (with_reducible exact Nat.le_refl _) | (with_reducible assumption) | omega | (simp; omega) | (simp; done)))) (w.heap.size + 2) (by omega)).trans (three w (pblk (m : Int) (.slice (some ⟨g1, 0, none⟩) n cap1)) (eblk (m : Int) a) pzblk).2.2
    obtain ⟨r0, r1, r2, r3, rf, rl0⟩ := cells4 hr
    refine bodyPost_ret (v := polyE (m : Int) (.slice (some ⟨g4, 0, none⟩) K cp4)) (by simp [results, Try.results98, go_sem, r0, r1, r2, r3]) rfl ⟨g4, cp4, rfl, by omega, by simp; omega, ?_, ?_⟩
    · exact HE4.out.over hr (by omega) (fun k hk => by (repeat' (first | (with_reducible rfl) | (with_reducible refine (heap_setCell_other _ _ _ _ ?_).trans ?_) | (with_reducible refine (drew_heap' _ _).trans ?_) | exact hk)))
    · (repeat' (first | (with_reducible assumption) | (with_reducible exact Below.refl _ _) | (with_reducible refine below_drewN ?_ _) | (with_reducible refine Below.drew ?_) | (with_reducible refine Below.alloc ?_ ?_ _) | (with_reducible refine Below.setCell ?_ ?_ _) | (with_reducible refine Below.trans ?_ (Below.mono (by assumption) ?_)) | (with_reducible exact Nat.le_refl _) | (with_reducible assumption) | omega | (simp; omega) | (simp; done)))
theorem mno_red {m n : Nat} {f : Nat → Int} (h : isSz (m : Int) = true) (hf : ∀ i, El (m : Int) (f i)) (_h0 : 0 < n) (hn : n ≤ m) (ht : f (n - 1) ≠ 0) :
    redn m (fun i => mulF m (invF m (f (n - 1))) (f i)) n = n ∧ ∀ i, i < n → redR m (fun i => mulF m (invF m (f (n - 1))) (f i)) n i = mno m n f i := by
  have hel : ∀ i, El (m : Int) (mulF m (invF m (f (n - 1))) (f i)) := mno_el (n := n) h hf
  have e1 := (red_short h hel hn).1
  have e2 : sn (mno m n f) n = n := sn_full (.inr (by rw [mno_top h hf ht]; decide))
  refine ⟨e1.trans e2, fun i hi => ?_⟩
  rw [redR_small m _ h hel n hn, if_pos hi]
  rfl
set_option maxRecDepth 100000 in
set_option maxHeartbeats 4000000 in
/-- impl.poly.monic. -/
theorem monicE (m n g cap : Nat) (f : Nat → Int) (w : World) (h : isSz (m : Int) = true) (hg : g < w.heap.size) (he : Els w g (m : Int) f n) (hf : ∀ i, El (m : Int) (f i)) (h0 : 0 < n) (hn : n ≤ m) (ht : f (n - 1) ≠ 0) :
    Calls Try.prog 108 #[polyE (m : Int) (.slice (some ⟨g, 0, none⟩) n cap)] w fun e w' => ∃ g' cap', e = .returned (polyE (m : Int) (.slice (some ⟨g', 0, none⟩) n cap')) ∧ w.heap.size ≤ g' ∧ g' < w'.heap.size ∧ Els w' g' (m : Int) (mno m n f) n ∧ Below w.heap.size w w' := by
  have hq := isSz_le (m : Int) h
  have HDEG := Lib.hid (fun w => degreeE (m : Int) g n cap w (by omega))
  have HI : Hid (∀ w, Calls Try.prog 111 #[elE (m : Int) (f (n - 1))] w fun e w' => e = .returned (elE (m : Int) (invF m (f (n - 1)))) ∧ Below w.heap.size w w') := Lib.hid fun w => inverseE (m : Int) (f (n - 1)) w h (hf _).1 (hf _).2
  have HSC : Hid (∀ w', Below w.heap.size w w' → Calls Try.prog 98 #[polyE (m : Int) (.slice (some ⟨g, 0, none⟩) n cap), elE (m : Int) (invF m (f (n - 1)))] w' fun e w'' => ∃ g' cap', e = .returned (polyE (m : Int) (.slice (some ⟨g', 0, none⟩) n cap')) ∧ w'.heap.size ≤ g' ∧ g' < w''.heap.size ∧ Els w'' g' (m : Int) (mno m n f) n ∧ Below w'.heap.size w' w'') := Lib.hid fun w' hb => by
    have hz := hb.size
    obtain ⟨e1, e2⟩ := mno_red h hf h0 hn ht
    refine (scaledPF m n (invF m (f (n - 1))) (.slice (some ⟨g, 0, none⟩) n cap) f w' h ⟨g, cap, rfl, by omega, he.below hb hg⟩ hf ((hf _).inv' h) (by omega)).mono ?_
    rintro e w2 ⟨g2, c2, rfl, h1, h2, h3, h4⟩
    rw [e1] at h3
    exact ⟨g2, c2, by rw [e1], h1, h2, fun i hi => by rw [← e2 i hi]; exact h3 i hi, h4⟩
  have hz1 : ((n : Int) - 1) = ((n - 1 : Nat) : Int) := by omega
  have HEN := Lib.hid (he (n - 1) (by omega))
  have hn1 : n - 1 < n := by omega
  clear h he hf ht
  generalize invF m (f (n - 1)) = a at *
  generalize mno m n f = G at *
  generalize f (n - 1) = y at *
  rw [hz1] at HDEG
  generalize n - 1 = d at *
  go_enter Try.func108, Try.ntmps108
  go_wp2_with fail
  have HT := Lib.hid (two w (pblk (m : Int) (.slice (some ⟨g, 0, none⟩) n cap)) pzblk)
  have HKEEP : Hid (∀ w', Below (w.heap.size + 1) (w.alloc (pblk (m : Int) (.slice (some ⟨g, 0, none⟩) n cap))) w' → w'.cell? ⟨w.heap.size, 0, none⟩ = some (.int .i64 m) ∧ w'.cell? ⟨w.heap.size, 1, none⟩ = some (.int .i64 (pr m)) ∧ w'.cell? ⟨w.heap.size, 2, none⟩ = some (.int .i64 (pl m)) ∧ w'.cell? ⟨w.heap.size, 3, none⟩ = some (.slice (some ⟨g, 0, none⟩) n cap) ∧ w'.cell? ⟨g, d * 7, none⟩ = some (.int .i64 m) ∧ w'.cell? ⟨g, d * 7 + 1, none⟩ = some (.int .i64 (pr m)) ∧ w'.cell? ⟨g, d * 7 + 2, none⟩ = some (.int .i64 (pl m)) ∧ w'.cell? ⟨g, d * 7 + 3, none⟩ = some (.int .i64 (dg m y 0)) ∧ w'.cell? ⟨g, d * 7 + 4, none⟩ = some (.int .i64 (dg m y 1)) ∧ w'.cell? ⟨g, d * 7 + 5, none⟩ = some (.int .i64 (dg m y 2)) ∧ w'.cell? ⟨g, d * 7 + 6, none⟩ = some (.int .i64 (dg m y 3))) := Lib.hid fun w' hb => by
    obtain ⟨x0, x1, x2, x3, _⟩ := cells4 ((hb.block _ (by omega)).trans (heap_alloc_new w _))
    have hb' : Below w.heap.size w w' := by (repeat' (first | (with_reducible assumption) | (with_reducible exact Below.refl _ _) | (with_reducible refine below_drewN ?_ _) | (with_reducible refine Below.drew ?_) | (with_reducible refine Below.alloc ?_ ?_ _) | (with_reducible refine Below.setCell ?_ ?_ _) | (with_reducible refine Below.trans ?_ (Below.mono (by assumption) ?_)) | (with_reducible exact Nat.le_refl _) | (with_reducible assumption) | omega | (simp; omega) | (simp; done)))
    obtain ⟨y0, y1, y2, y3, y4, y5, y6⟩ := HEN.out
    obtain ⟨hc, _⟩ := bcell hb'
    simp only [← hc _ _ hg] at y0 y1 y2 y3 y4 y5 y6
    exact ⟨x0, x1, x2, x3, y0, y1, y2, y3, y4, y5, y6⟩
  go_region_held3 (fun w' => w'.cell? ⟨w.heap.size, 0, none⟩ = some (.int .i64 m) ∧ w'.cell? ⟨w.heap.size, 1, none⟩ = some (.int .i64 (pr m)) ∧ w'.cell? ⟨w.heap.size, 2, none⟩ = some (.int .i64 (pl m)) ∧ w'.cell? ⟨w.heap.size, 3, none⟩ = some (.slice (some ⟨g, 0, none⟩) n cap) ∧ w'.cell? ⟨g, d * 7, none⟩ = some (.int .i64 m) ∧ w'.cell? ⟨g, d * 7 + 1, none⟩ = some (.int .i64 (pr m)) ∧ w'.cell? ⟨g, d * 7 + 2, none⟩ = some (.int .i64 (pl m)) ∧ w'.cell? ⟨g, d * 7 + 3, none⟩ = some (.int .i64 (dg m y 0)) ∧ w'.cell? ⟨g, d * 7 + 4, none⟩ = some (.int .i64 (dg m y 1)) ∧ w'.cell? ⟨g, d * 7 + 5, none⟩ = some (.int .i64 (dg m y 2)) ∧ w'.cell? ⟨g, d * 7 + 6, none⟩ = some (.int .i64 (dg m y 3)))
    (exact HKEEP.out _ (by (try have hb3 := HB3.out); (try have hb4 := HB4.out); (try have hb5 := HB5.out); (repeat' (first | (with_reducible assumption) | (with_reducible exact Below.refl _ _) | (with_reducible refine below_drewN ?_ _) | (with_reducible refine Below.drew ?_) | (with_reducible refine Below.alloc ?_ ?_ _) | (with_reducible refine Below.setCell ?_ ?_ _) | (with_reducible refine Below.trans ?_ (Below.mono (by assumption) ?_)) | (with_reducible exact Nat.le_refl _) | (with_reducible assumption) | omega | (simp; omega) | (simp; done)))))
    (first
    | (go_at_call 64; refine (HDEG.out _).mono ?_; rintro e w3 ⟨rfl, hb3⟩; obtain ⟨hc3, hf3⟩ := bcell hb3; (try simp only [World.size_drew] at hc3 hf3); have hz3 := hb3.size; (try simp at hz3); have HB3 := Lib.hid hb3; clear hb3)
    | (go_at_call 111; refine (HI.out _).mono ?_; rintro e w4 ⟨rfl, hb4⟩; obtain ⟨hc4, hf4⟩ := bcell hb4; (try simp only [World.size_drew] at hc4 hf4); have hz4 := hb4.size; (try simp at hz4); have HB4 := Lib.hid hb4; clear hb4)
    | (go_at_call 98; refine (HSC.out _ (by (try have hb3 := HB3.out); (try have hb4 := HB4.out); (repeat' (first | (with_reducible assumption) | (with_reducible exact Below.refl _ _) | (with_reducible refine below_drewN ?_ _) | (with_reducible refine Below.drew ?_) | (with_reducible refine Below.alloc ?_ ?_ _) | (with_reducible refine Below.setCell ?_ ?_ _) | (with_reducible refine Below.trans ?_ (Below.mono (by assumption) ?_)) | (with_reducible exact Nat.le_refl _) | (with_reducible assumption) | omega | (simp; omega) | (simp; done))))).mono ?_; rintro e w5 ⟨g5, cp5, rfl, hlo5, hg5, he5, hb5⟩; have HE5 := Lib.hid he5; clear he5; obtain ⟨hc5, hf5⟩ := bcell hb5; (try simp only [World.size_drew] at hc5 hf5); have hz5 := hb5.size; (try simp at hz5); have HB5 := Lib.hid hb5; clear hb5; have l5 : w.heap.size + 1 < w5.heap.size := (by omega); have hr5 : w5.heap[w.heap.size + 1]? = some pzblk := (Below.block (B := w.heap.size + 2) (w := (w.alloc (pblk (m : Int) (.slice (some ⟨g, 0, none⟩) n cap))).alloc pzblk) (by (try have hb3 := HB3.out); (try have hb4 := HB4.out); have hb5 := HB5.out; (repeat' (first | (with_reducible assumption) | (with_reducible exact Below.refl _ _) | (with_reducible refine below_drewN ?_ _) | (with_reducible refine Below.drew ?_) | (with_reducible refine Below.alloc ?_ ?_ _) | (with_reducible refine Below.setCell ?_ ?_ _) | (with_reducible refine Below.trans ?_ (Below.mono (by assumption) ?_)) | (with_reducible exact Nat.le_refl _) | (with_reducible assumption) | omega | (simp; omega) | (simp; done)))) (w.heap.size + 1) (by omega)).trans HT.out.2; obtain ⟨s0, s1, s2, s3, sf, sl⟩ := cells4 hr5))
  all_goals
    go_wp2_with fail
    have hb3 := HB3.out
    have hb4 := HB4.out
    have hb5 := HB5.out
    refine bodyPost_ret (v := polyE (m : Int) (.slice (some ⟨g5, 0, none⟩) n cp5)) (by simp [results, Try.results108, go_sem, s0, s1, s2, s3]) rfl ⟨g5, cp5, rfl, by omega, by simp; omega, ?_, ?_⟩
    · exact HE5.out.over hr5 (by omega) (fun k hk => by (repeat' (first | (with_reducible rfl) | (with_reducible refine (heap_setCell_other _ _ _ _ ?_).trans ?_) | (with_reducible refine (drew_heap' _ _).trans ?_) | exact hk)))
    · (repeat' (first | (with_reducible assumption) | (with_reducible exact Below.refl _ _) | (with_reducible refine below_drewN ?_ _) | (with_reducible refine Below.drew ?_) | (with_reducible refine Below.alloc ?_ ?_ _) | (with_reducible refine Below.setCell ?_ ?_ _) | (with_reducible refine Below.trans ?_ (Below.mono (by assumption) ?_)) | (with_reducible exact Nat.le_refl _) | (with_reducible assumption) | omega | (simp; omega) | (simp; done)))
end Go.Proofs.Ytimpgbifnijkkaa
