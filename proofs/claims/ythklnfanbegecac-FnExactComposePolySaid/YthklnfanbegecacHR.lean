/- impl.field.reduced by a contract. -/
import Derived.Test.YthklnfanbegecacHQ
import Derived.Test.YthklnfanbegecacHK
import Derived.Test.YthklnfanbegecacW
namespace Go.Proofs.Ythklnfanbegecac
open Go.RowKit
theorem drew_heap' (w : World) (k : Nat) : w.drew.heap[k]? = w.heap[k]? := rfl
abbrev ffblk (q : Int) : Obj := .cells #[.int .i64 q, .int .i64 (pr q), .int .i64 (pl q)] 34
theorem cells3' {w : World} {b : Nat} {x0 x1 x2 : Value} (h : w.heap[b]? = some (.cells #[x0, x1, x2] 34 (0, 0))) :
    w.cell? ⟨b, 0, none⟩ = some x0 ∧ w.cell? ⟨b, 1, none⟩ = some x1 ∧ w.cell? ⟨b, 2, none⟩ = some x2 ∧ (∀ o, w.frozen? ⟨b, o, none⟩ = false) ∧ b < w.heap.size := by
  refine ⟨?_, ?_, ?_, fun o => frozen_of_row w b o _ _ h, (Array.getElem?_eq_some_iff.1 h).1⟩ <;> rw [cell_of_row w b _ _ _ (0, 0) h] <;> rfl
theorem Els.put {w : World} {g n cap i : Nat} {q : Int} {f : Nat → Int} (x : Int) (hk : Blk w g cap) (hi : i < n) (hn : n ≤ cap) (he : Els w g q f n) : Els (put7i w g i q x) g q (upd f i x) n ∧ Blk (put7i w g i q x) g cap := by
  obtain ⟨cur, hc, hs⟩ := hk
  have hh := put7i_heap w g i q x cur hc
  refine ⟨fun j hj => ?_, ⟨_, hh, by rw [arr7_size]; exact hs⟩⟩
  have hin := arr7_in cur i q x (by omega)
  simp only [cell_of_row _ g _ _ _ (0, 0) hh]
  by_cases e : j = i
  · subst e
    rw [upd_at]
    exact hin
  · have := he j hj
    simp only [cell_of_row _ g _ _ _ (0, 0) hc] at this
    rw [upd_ne _ _ _ _ e, arr7_out _ _ _ _ _ (by omega), arr7_out _ _ _ _ _ (by omega), arr7_out _ _ _ _ _ (by omega), arr7_out _ _ _ _ _ (by omega), arr7_out _ _ _ _ _ (by omega), arr7_out _ _ _ _ _ (by omega), arr7_out _ _ _ _ _ (by omega)]
    exact this
/-- The memory of reduced. -/
structure TR (w0 wr : World) (q : Int) (f : Nat → Int) (n cap g : Nat) : Prop where
  hf : wr.heap[w0.heap.size]? = some (ffblk q)
  hr : wr.heap[w0.heap.size + 1]? = some pzblk
  hk : Blk wr g cap
  he : Els wr g q f n
  bel : Below w0.heap.size w0 wr
  lt : w0.heap.size + 1 < g
theorem TR.below {w0 wr w' : World} {q : Int} {f : Nat → Int} {n cap g B : Nat} (h : TR w0 wr q f n cap g) (hb : Below B wr w') (hB : wr.heap.size ≤ B) : TR w0 w' q f n cap g := by
  have hg := h.hk.lt
  have hl := h.lt
  have hs := h.bel.size
  exact ⟨(hb.block _ (by omega)).trans h.hf, (hb.block _ (by omega)).trans h.hr, h.hk.below hb (by omega), h.he.below hb (by omega), h.bel.trans (hb.mono (by omega)), hl⟩
theorem TR.step {w0 wr : World} {q : Int} {f : Nat → Int} {n cap g i : Nat} (h : TR w0 wr q f n cap g) (hi : i < n) (hn : n ≤ cap) (x : Int) : TR w0 (put7i wr g i q x) q (upd f i x) n cap g := by
  have hl := h.lt
  obtain ⟨he, hk⟩ := Els.put x h.hk hi hn h.he
  exact ⟨(put7i_other _ _ _ _ _ _ (by omega)).trans h.hf, (put7i_other _ _ _ _ _ _ (by omega)).trans h.hr, hk, he, put7i_below h.bel _ (by omega) _ _ _, hl⟩
theorem sn_stop' {f : Nat → Int} {k : Nat} (h : f k ≠ 0) : sn f (k + 1) = k + 1 := by simp [sn, h]
theorem sn_go' {f : Nat → Int} {k : Nat} (h : f k = 0) : sn f (k + 1) = sn f k := by simp [sn, h]
set_option maxHeartbeats 4000000 in
/-- impl.field.reduced. -/
theorem reducedE (m : Nat) (v : Value) (c : Nat → Int) (n : Nat) (w : World) (h : isSz (m : Int) = true) (hv : Se w v (m : Int) c n) (hc : ∀ i, El (m : Int) (c i)) (hn : n ≤ 1000) :
    Calls Try.prog 58 #[fdE (m : Int), v] w fun e w' => ∃ g cap, e = .returned (polyE (m : Int) (.slice (some ⟨g, 0, none⟩) (redn m c n) cap)) ∧ g < w'.heap.size ∧ Els w' g (m : Int) (redR m c n) (redn m c n) ∧ Below w.heap.size w w' := by
  have hq := isSz_le (m : Int) h
  obtain ⟨hlast, hsn⟩ := redT_last m c h hc n
  have HLAST := Lib.hid hlast; clear hlast
  have HSN := Lib.hid hsn; clear hsn
  have HCL := Lib.hid (fun w' (hb : Below w.heap.size w w') => cloneE (m : Int) v c n w' (hv.below hb (Nat.le_refl _)) hn)
  have HEL := Lib.hid (redT_el m c h hc n)
  have HA := Lib.hid (fun (s j k : Nat) w => plusE (m : Int) (redT m c n s j) (redT m c n s k) w h (redT_el m c h hc n s j).1 (redT_el m c h hc n s j).2 (redT_el m c h hc n s k).1 (redT_el m c h hc n s k).2)
  have HZ := Lib.hid (fun (s j : Nat) w => isZeroE (m : Int) (redT m c n s j) w h (redT_el m c h hc n s j).1 (redT_el m c h hc n s j).2)
  obtain ⟨g0, cp0, rfl, hg0, he0⟩ := hv
  clear h hc he0
  go_enter Try.func58, Try.ntmps58
  go_wp2_with fail
  refine (HCL.out _ (by (repeat' (first | (with_reducible assumption) | (with_reducible exact Below.refl _ _) | (with_reducible refine below_drewN ?_ _) | (with_reducible refine Below.drew ?_) | (with_reducible refine Below.alloc ?_ ?_ _) | (with_reducible refine Below.setCell ?_ ?_ _) | (with_reducible refine Below.trans ?_ (Below.mono (by assumption) ?_)) | (with_reducible exact Nat.le_refl _) | (with_reducible assumption) | omega | (simp; omega) | (simp; done))))).mono ?_
  rintro e w1 ⟨g, cap, rfl, hcap, hg, hk1, he1, hb1⟩
  simp at hg
  have htr : TR w w1 (m : Int) (redT m c n 0) n cap g := by
    refine ⟨?_, ?_, hk1, he1, by (repeat' (first | (with_reducible assumption) | (with_reducible exact Below.refl _ _) | (with_reducible refine below_drewN ?_ _) | (with_reducible refine Below.drew ?_) | (with_reducible refine Below.alloc ?_ ?_ _) | (with_reducible refine Below.setCell ?_ ?_ _) | (with_reducible refine Below.trans ?_ (Below.mono (by assumption) ?_)) | (with_reducible exact Nat.le_refl _) | (with_reducible assumption) | omega | (simp; omega) | (simp; done))), by omega⟩
    · rw [hb1.block _ (by simp; omega), Below.heap_alloc _ _ _ (by simp), heap_alloc_new]
    · rw [hb1.block _ (by simp), show w.heap.size + 1 = (w.alloc (ffblk (m : Int))).heap.size from by simp, heap_alloc_new]
  have HTR := Lib.hid htr
  clear htr hk1 he1 hb1
  go_wp2_with fail
  go_loopw [5] (fun vi wr => ∃ s : Nat, (s + m ≤ n ∨ s = 0) ∧ vi = .int .i64 ((n : Int) - 1 - (s : Int)) ∧ TR w wr (m : Int) (redT m c n s) n cap g) (fun vi _ => (intOf vi + 1).toNat)
  case atStart => exact ⟨0, .inr rfl, by simp, HTR.out⟩
  case round =>
    obtain ⟨s, hs, rfl, ht⟩ := hrel
    obtain ⟨f0, f1, f2, ff, fl0⟩ := cells3' ht.hf
    have hgl := ht.hk.lt
    by_cases hlt : s + m + 1 ≤ n
    · have hz : ((n : Int) - 1 - (s : Int)) = ((n - 1 - s : Nat) : Int) := by omega
      have hz2 : (((n - 1 - s : Nat) : Int) - (m : Int) + 1) = ((n - 1 - s - m + 1 : Nat) : Int) := by omega
      obtain ⟨c0, c1, c2, c3, c4, c5, c6⟩ := ht.he (n - 1 - s) (by omega)
      obtain ⟨d0, d1, d2, d3, d4, d5, d6⟩ := ht.he (n - 1 - s - m + 1) (by omega)
      have fr := ht.hk.free
      have HT := Lib.hid ht; clear ht
      have HA' := Lib.hid (HA.out s (n - 1 - s - m + 1) (n - 1 - s))
      have HUP : Hid (redT m c n (s + 1) = upd (redT m c n s) (n - 1 - s - m + 1) (addF m (redT m c n s (n - 1 - s - m + 1)) (redT m c n s (n - 1 - s)))) := Lib.hid rfl
      have hlo : n - 1 - s - m + 1 < n := by omega
      have hhi : n - 1 - s < n := by omega
      have hge : (m : Int) ≤ ((n - 1 - s : Nat) : Int) := by omega
      rw [hz]
      generalize hkk : n - 1 - s = k at *
      generalize hll : k - m + 1 = lo at *
      have HKK := Lib.hid hkk; clear hkk
      have HLL := Lib.hid hll; clear hll hz
      generalize redT m c n s lo = y at *
      generalize redT m c n s k = x at *
      go_wp2_with fail
      go_region_with (go_at_call 63; refine (HA'.out _).mono ?_; rintro e w2 ⟨rfl, hb2⟩; obtain ⟨hc2, hf2⟩ := bcell hb2; (try simp only [World.size_drew] at hc2 hf2); have hz2 := hb2.size; (try simp at hz2); have HB2 := Lib.hid hb2; clear hb2; have l2 : g < w2.heap.size := (by omega))
      all_goals
        go_wp2
        go_roundw
        case rel =>
          have hb2 := HB2.out
          have hkk := HKK.out
          have t2 := (HT.out.below (B := wr.heap.size) (w' := w2) (by (repeat' (first | (with_reducible assumption) | (with_reducible exact Below.refl _ _) | (with_reducible refine below_drewN ?_ _) | (with_reducible refine Below.drew ?_) | (with_reducible refine Below.alloc ?_ ?_ _) | (with_reducible refine Below.setCell ?_ ?_ _) | (with_reducible refine Below.trans ?_ (Below.mono (by assumption) ?_)) | (with_reducible exact Nat.le_refl _) | (with_reducible assumption) | omega | (simp; omega) | (simp; done)))) (Nat.le_refl _)).step hlo hcap (addF (m : Int) y x)
          refine ⟨s + 1, by omega, by rw [← hkk]; exact congrArg (Value.int .i64) (by omega), ?_⟩
          rw [HUP.out]
          exact t2
        case measure => (simp [intOf]; try omega)
    · have hs2 : s = n - m := by omega
      subst hs2
      have hge : ¬ (m : Int) ≤ (n : Int) - 1 - ((n - m : Nat) : Int) := by omega
      have HT := Lib.hid ht; clear ht
      have hmin : ∀ (a b : Nat), a ≤ b → min a b = a := fun a b h => Nat.min_eq_left h
      generalize hg : redT m c n (n - m) = T at *
      have HGT := Lib.hid hg; clear hg
      by_cases hnm : n ≤ m
      · have hnm' : ¬ (m : Int) < (n : Int) := by omega
        have HRN : Hid (sn T n = redn m c n) := Lib.hid (by have e1 := HSN.out; rw [show min n m = n by omega] at e1; exact e1)
        have HTE : Hid (∀ j, j < n → T j = redR m c n j) := Lib.hid fun j hj => HLAST.out j (by omega)
        have HZT : Hid (∀ j w, Calls Try.prog 79 #[elE (m : Int) (T j)] w fun e w' => e = .returned (.bool (decide (T j = 0))) ∧ Below w.heap.size w w') := Lib.hid (by have e1 := HZ.out (n - m); rw [HGT.out] at e1; exact e1)
        have hKn : n ≤ n := by omega
        go_wp2_with fail
        go_loopw [7] (fun vk ws => ∃ k : Nat, k ≤ n ∧ vk = .int .i64 k ∧ sn T k = sn T n ∧ TR w ws (m : Int) T n cap g) (fun vk _ => (intOf vk).toNat)
        case atStart => exact ⟨n, Nat.le_refl _, rfl, rfl, HT.out⟩
        case round =>
          obtain ⟨k, hk, rfl, hsk, ht⟩ := hrel
          have hFIN : sn T n = k → Hid (k = redn m c n) := fun e => Lib.hid (by rw [← HRN.out, e])
          obtain ⟨f0, f1, f2, ff, fl0⟩ := cells3' ht.hf
          obtain ⟨r0, r1, r2, r3, rf, rl0⟩ := cells4 ht.hr
          have hgl := ht.hk.lt
          by_cases h0 : k = 0
          · subst h0
            have HFN := hFIN hsk.symm
            clear hFIN hsk
            have HTT := Lib.hid ht; clear ht
            have hb0 := HTT.out.bel
            go_wp2_with fail
            go_region
            all_goals
              go_wp2_with fail
              refine bodyPost_ret (v := polyE (m : Int) (.slice (some ⟨g, 0, none⟩) 0 cap)) (by simp [results, Try.results58, go_sem, r0, r1, r2, r3]) rfl ⟨g, cap, by rw [← HFN.out], by simp; omega, ?_, ?_⟩
              · rw [← HFN.out]
                exact fun i hi => by omega
              · (repeat' (first | (with_reducible assumption) | (with_reducible exact Below.refl _ _) | (with_reducible refine below_drewN ?_ _) | (with_reducible refine Below.drew ?_) | (with_reducible refine Below.alloc ?_ ?_ _) | (with_reducible refine Below.setCell ?_ ?_ _) | (with_reducible refine Below.trans ?_ (Below.mono (by assumption) ?_)) | (with_reducible exact Nat.le_refl _) | (with_reducible assumption) | omega | (simp; omega) | (simp; done)))
          · obtain ⟨j, rfl⟩ : ∃ j, k = j + 1 := ⟨k - 1, by omega⟩
            obtain ⟨c0, c1, c2, c3, c4, c5, c6⟩ := ht.he j (by omega)
            have hz : (((j + 1 : Nat) : Int) - 1) = (j : Int) := by omega
            have hpos : (0 : Int) < ((j + 1 : Nat) : Int) := by omega
            have hjn : j < n := by omega
            have HZJ := Lib.hid (HZT.out j)
            by_cases hu : T j = 0
            · have HS2 : Hid (sn T j = sn T n) := Lib.hid (by rw [← hsk, sn_go' hu])
              have hd : decide (T j = 0) = true := decide_eq_true hu
              have HTT := Lib.hid ht; clear ht hFIN hsk
              rw [hd] at HZJ
              clear hu hd
              generalize T j = u at *
              go_wp2_with fail
              refine (HZJ.out _).mono ?_
              rintro e w2 ⟨rfl, hb2⟩
              have HT2 := Lib.hid (HTT.out.below hb2 (Nat.le_refl _)); clear hb2
              go_wp2
              go_roundw
              case rel => exact ⟨j, by omega, by go_num, HS2.out, HT2.out⟩
              case measure => (simp [intOf]; try omega)
            · have hd : decide (T j = 0) = false := decide_eq_false hu
              have e : sn T n = j + 1 := by rw [← hsk, sn_stop' hu]
              have HFN := hFIN e
              have HTT := Lib.hid ht; clear ht hFIN hsk e
              rw [hd] at HZJ
              clear hu hd
              generalize T j = u at *
              go_wp2_with fail
              refine (HZJ.out _).mono ?_
              rintro e w2 ⟨rfl, hb2⟩
              have hz2 := hb2.size
              have HT2 := Lib.hid (HTT.out.below hb2 (Nat.le_refl _))
              obtain ⟨hc2, hf2⟩ := bcell hb2; have hz2 := hb2.size; (try simp at hz2); have HB2 := Lib.hid hb2; clear hb2
              clear r0 r1 r2 r3 rf rl0 f0 f1 f2 ff fl0
              obtain ⟨f0, f1, f2, ff, fl0⟩ := cells3' HT2.out.hf
              obtain ⟨r0, r1, r2, r3, rf, rl0⟩ := cells4 HT2.out.hr
              have hb0 := HT2.out.bel
              have hlt2 := HT2.out.lt
              have hgl2 := HT2.out.hk.lt
              have HH := Lib.hid HT2.out.he
              have hkc : ((j + 1 : Nat) : Int) ≤ (cap : Int) := by omega
              clear hc2 hf2
              go_wp2_with fail
              go_region
              all_goals
                go_wp2_with fail
                refine bodyPost_ret (v := polyE (m : Int) (.slice (some ⟨g, 0, none⟩) (j + 1) cap)) (by simp [results, Try.results58, go_sem, r0, r1, r2, r3]) rfl ⟨g, cap, by rw [← HFN.out], by simp; omega, ?_, ?_⟩
                · rw [← HFN.out]
                  refine (show ∀ W : World, W.heap[g]? = w2.heap[g]? → Els W g (m : Int) (redR m c n) (j + 1) from fun W hW i hi => by rw [← HTE.out i (by omega)]; exact (HH.out.same hW) i (by omega)) _ ?_
                  (repeat' (first | (with_reducible rfl) | omega | (with_reducible refine (heap_setCell_other _ _ _ _ ?_).trans ?_) | (with_reducible refine (Below.heap_alloc _ _ _ ?_).trans ?_) | (with_reducible refine (drew_heap' _ _).trans ?_) | (simp; omega)))
                · (repeat' (first | (with_reducible assumption) | (with_reducible exact Below.refl _ _) | (with_reducible refine below_drewN ?_ _) | (with_reducible refine Below.drew ?_) | (with_reducible refine Below.alloc ?_ ?_ _) | (with_reducible refine Below.setCell ?_ ?_ _) | (with_reducible refine Below.trans ?_ (Below.mono (by assumption) ?_)) | (with_reducible exact Nat.le_refl _) | (with_reducible assumption) | omega | (simp; omega) | (simp; done)))
      · have hnm' : (m : Int) < (n : Int) := by omega
        have HRN : Hid (sn T m = redn m c n) := Lib.hid (by have e1 := HSN.out; rw [show min n m = m by omega] at e1; exact e1)
        have HTE : Hid (∀ j, j < m → T j = redR m c n j) := Lib.hid fun j hj => HLAST.out j (by omega)
        have HZT : Hid (∀ j w, Calls Try.prog 79 #[elE (m : Int) (T j)] w fun e w' => e = .returned (.bool (decide (T j = 0))) ∧ Below w.heap.size w w') := Lib.hid (by have e1 := HZ.out (n - m); rw [HGT.out] at e1; exact e1)
        have hKn : m ≤ n := by omega
        go_wp2_with fail
        go_loopw [7] (fun vk ws => ∃ k : Nat, k ≤ m ∧ vk = .int .i64 k ∧ sn T k = sn T m ∧ TR w ws (m : Int) T n cap g) (fun vk _ => (intOf vk).toNat)
        case atStart => exact ⟨m, Nat.le_refl _, rfl, rfl, HT.out⟩
        case round =>
          obtain ⟨k, hk, rfl, hsk, ht⟩ := hrel
          have hFIN : sn T m = k → Hid (k = redn m c n) := fun e => Lib.hid (by rw [← HRN.out, e])
          obtain ⟨f0, f1, f2, ff, fl0⟩ := cells3' ht.hf
          obtain ⟨r0, r1, r2, r3, rf, rl0⟩ := cells4 ht.hr
          have hgl := ht.hk.lt
          by_cases h0 : k = 0
          · subst h0
            have HFN := hFIN hsk.symm
            clear hFIN hsk
            have HTT := Lib.hid ht; clear ht
            have hb0 := HTT.out.bel
            go_wp2_with fail
            go_region
            all_goals
              go_wp2_with fail
              refine bodyPost_ret (v := polyE (m : Int) (.slice (some ⟨g, 0, none⟩) 0 cap)) (by simp [results, Try.results58, go_sem, r0, r1, r2, r3]) rfl ⟨g, cap, by rw [← HFN.out], by simp; omega, ?_, ?_⟩
              · rw [← HFN.out]
                exact fun i hi => by omega
              · (repeat' (first | (with_reducible assumption) | (with_reducible exact Below.refl _ _) | (with_reducible refine below_drewN ?_ _) | (with_reducible refine Below.drew ?_) | (with_reducible refine Below.alloc ?_ ?_ _) | (with_reducible refine Below.setCell ?_ ?_ _) | (with_reducible refine Below.trans ?_ (Below.mono (by assumption) ?_)) | (with_reducible exact Nat.le_refl _) | (with_reducible assumption) | omega | (simp; omega) | (simp; done)))
          · obtain ⟨j, rfl⟩ : ∃ j, k = j + 1 := ⟨k - 1, by omega⟩
            obtain ⟨c0, c1, c2, c3, c4, c5, c6⟩ := ht.he j (by omega)
            have hz : (((j + 1 : Nat) : Int) - 1) = (j : Int) := by omega
            have hpos : (0 : Int) < ((j + 1 : Nat) : Int) := by omega
            have hjn : j < n := by omega
            have HZJ := Lib.hid (HZT.out j)
            by_cases hu : T j = 0
            · have HS2 : Hid (sn T j = sn T m) := Lib.hid (by rw [← hsk, sn_go' hu])
              have hd : decide (T j = 0) = true := decide_eq_true hu
              have HTT := Lib.hid ht; clear ht hFIN hsk
              rw [hd] at HZJ
              clear hu hd
              generalize T j = u at *
              go_wp2_with fail
              refine (HZJ.out _).mono ?_
              rintro e w2 ⟨rfl, hb2⟩
              have HT2 := Lib.hid (HTT.out.below hb2 (Nat.le_refl _)); clear hb2
              go_wp2
              go_roundw
              case rel => exact ⟨j, by omega, by go_num, HS2.out, HT2.out⟩
              case measure => (simp [intOf]; try omega)
            · have hd : decide (T j = 0) = false := decide_eq_false hu
              have e : sn T m = j + 1 := by rw [← hsk, sn_stop' hu]
              have HFN := hFIN e
              have HTT := Lib.hid ht; clear ht hFIN hsk e
              rw [hd] at HZJ
              clear hu hd
              generalize T j = u at *
              go_wp2_with fail
              refine (HZJ.out _).mono ?_
              rintro e w2 ⟨rfl, hb2⟩
              have hz2 := hb2.size
              have HT2 := Lib.hid (HTT.out.below hb2 (Nat.le_refl _))
              obtain ⟨hc2, hf2⟩ := bcell hb2; have hz2 := hb2.size; (try simp at hz2); have HB2 := Lib.hid hb2; clear hb2
              clear r0 r1 r2 r3 rf rl0 f0 f1 f2 ff fl0
              obtain ⟨f0, f1, f2, ff, fl0⟩ := cells3' HT2.out.hf
              obtain ⟨r0, r1, r2, r3, rf, rl0⟩ := cells4 HT2.out.hr
              have hb0 := HT2.out.bel
              have hlt2 := HT2.out.lt
              have hgl2 := HT2.out.hk.lt
              have HH := Lib.hid HT2.out.he
              have hkc : ((j + 1 : Nat) : Int) ≤ (cap : Int) := by omega
              clear hc2 hf2
              go_wp2_with fail
              go_region
              all_goals
                go_wp2_with fail
                refine bodyPost_ret (v := polyE (m : Int) (.slice (some ⟨g, 0, none⟩) (j + 1) cap)) (by simp [results, Try.results58, go_sem, r0, r1, r2, r3]) rfl ⟨g, cap, by rw [← HFN.out], by simp; omega, ?_, ?_⟩
                · rw [← HFN.out]
                  refine (show ∀ W : World, W.heap[g]? = w2.heap[g]? → Els W g (m : Int) (redR m c n) (j + 1) from fun W hW i hi => by rw [← HTE.out i (by omega)]; exact (HH.out.same hW) i (by omega)) _ ?_
                  (repeat' (first | (with_reducible rfl) | omega | (with_reducible refine (heap_setCell_other _ _ _ _ ?_).trans ?_) | (with_reducible refine (Below.heap_alloc _ _ _ ?_).trans ?_) | (with_reducible refine (drew_heap' _ _).trans ?_) | (simp; omega)))
                · (repeat' (first | (with_reducible assumption) | (with_reducible exact Below.refl _ _) | (with_reducible refine below_drewN ?_ _) | (with_reducible refine Below.drew ?_) | (with_reducible refine Below.alloc ?_ ?_ _) | (with_reducible refine Below.setCell ?_ ?_ _) | (with_reducible refine Below.trans ?_ (Below.mono (by assumption) ?_)) | (with_reducible exact Nat.le_refl _) | (with_reducible assumption) | omega | (simp; omega) | (simp; done)))
end Go.Proofs.Ythklnfanbegecac
