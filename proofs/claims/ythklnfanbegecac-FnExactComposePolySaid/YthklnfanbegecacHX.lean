/- The model's product: spec.plTimes by a contract. -/
import Derived.Test.YthklnfanbegecacHP
import Derived.Test.YthklnfanbegecacHT
import Derived.Test.YthklnfanbegecacF
namespace Go.Proofs.Ythklnfanbegecac
open Go.RowKit
theorem Sl.parts {w : World} {v : Value} {f : Nat → Int} {n : Nat} (h : Sl w v (fl f n)) : ∃ a cap, v = .slice a n cap ∧ (0 < n → ∃ b off, a = some ⟨b, off, none⟩ ∧ b < w.heap.size ∧ ∀ i, i < n → w.cell? ⟨b, off + i, none⟩ = some (.int .i64 (f i))) := by
  by_cases h0 : 0 < n
  · obtain ⟨b, off, cap, rfl, hb, hc⟩ := h.open (fl_len _ _) h0
    exact ⟨_, _, rfl, fun _ => ⟨b, off, rfl, hb, fun i hi => by have := hc i hi; rwa [fl_get _ _ _ hi] at this⟩⟩
  · obtain rfl : n = 0 := by omega
    obtain ⟨a, cap, rfl⟩ := Sl.empty (show Sl w v [] from h)
    exact ⟨_, _, rfl, fun h => by omega⟩
theorem cou_zero (q : Int) (f g : Nat → Int) (k N : Nat) : List.replicate N 0 = fl (cou q f g k 0) N := by
  refine List.ext_getElem (by simp [fl]) fun j h1 h2 => ?_
  simp [fl, cou]
set_option maxRecDepth 100000 in
set_option maxHeartbeats 4000000 in
/-- spec.plTimes. -/
theorem plTimes_any (m n k : Nat) (v1 v2 : Value) (f g : Nat → Int) (w : World) (h : isSz (m : Int) = true) (hv1 : Sl w v1 (fl f n)) (hv2 : Sl w v2 (fl g k)) (hf : ∀ i, El (m : Int) (f i)) (hg : ∀ i, El (m : Int) (g i)) (hn : n ≤ 100) (hk : k ≤ 100) :
    Calls Try.prog 31 #[.int .i64 m, v1, v2] w fun e w' => ∃ v', e = .returned v' ∧ Row w' w.heap.size v' (fl (redR m (cou m f g k n) (n + k)) (redn m (cou m f g k n) (n + k))) ∧ Below w.heap.size w w' := by
  obtain ⟨i0, hi, iz0, iz1, iz2⟩ := info_parts Try.infoI
  have hq := isSz_le (m : Int) h
  have HT := Lib.hid (fun (i j : Nat) w => fdTimes_any (m : Int) (f i) (g j) w h (hf i).1 (hf i).2 (hg j).1 (hg j).2)
  have HCE : Hid (∀ i j x, El (m : Int) (cin m f g i (cou m f g k i) j x)) := Lib.hid fun i j x => cin_el h hf hg (cou_el h hf hg k i) i j x
  have HA := Lib.hid (fun (i j : Nat) w => fdPlus_any (m : Int) (cin m f g i (cou m f g k i) j (i + j)) (mulF m (f i) (g j)) w h (HCE.out i j _).1 (HCE.out i j _).2 ((hf i).mul h (hg j)).1 ((hf i).mul h (hg j)).2)
  have HRD := Lib.hid (fun v' w' (hs : Sl w' v' (fl (cou m f g k n) (n + k))) => plReduce_any m v' (cou m f g k n) (n + k) w' h hs (cou_el h hf hg k n) (by omega))
  obtain ⟨a1, cap1, rfl, p1⟩ := hv1.parts
  obtain ⟨a2, cap2, rfl, p2⟩ := hv2.parts
  have HP1 := Lib.hid p1
  have HP2 := Lib.hid p2
  clear p1 p2 hv1 hv2 hf hg h HCE
  generalize hN : n + k = N at *
  have hN' : (n : Int) + (k : Int) = (N : Int) := by omega
  go_enter Try.func31, Try.ntmps31
  go_wp2_with (at_make; refine wpList_make_full _ rfl _ _ 22 rfl w.heap.size 3 i0 (.int .i64 0) 1 Try.underlying22 hi iz0 iz1 .i64 .i64 _ _ N rfl rfl rfl rfl ?c3 ?c4 ?c5 ?_)
  case c3 => rw [iz2]; omega
  case c4 => unfold maxLen; omega
  case c5 => omega
  intro w1 hown hgrow
  have HR : Hid (Row w1 w.heap.size (.slice (some ⟨w.heap.size, 0, none⟩) N N) (fl (cou m f g k 0) N)) := Lib.hid (by
    have := Row.madeF (fun _ => 0) hown
    rw [← cou_zero m f g k, show List.replicate N (0 : Int) = fl (part0 (fun _ => 0) 0) N from part0_zero _ _]
    exact this)
  have HB := Lib.hid ((Below.refl w.heap.size w).grown hgrow (Nat.le_refl _) (fun k hk => by cases hk))
  have hgl : w.heap.size < w1.heap.size := (HR.out.lt w.heap.size rfl).2
  clear hown hgrow
  go_wp2_with fail
  go_loopw [20] (fun vi wr => ∃ i : Nat, i ≤ n ∧ vi = .int .i64 i ∧ Row wr w.heap.size (.slice (some ⟨w.heap.size, 0, none⟩) N N) (fl (cou m f g k i) N) ∧ w.heap.size < wr.heap.size ∧ Below w.heap.size w wr) (fun vi _ => n - (intOf vi).toNat)
  case atStart => exact ⟨0, Nat.zero_le _, rfl, HR.out, hgl, HB.out⟩
  case round =>
    obtain ⟨i, hin, rfl, hr, hgl', hbw⟩ := hrel
    have HRr := Lib.hid hr; clear hr
    by_cases hlt : i < n
    · obtain ⟨b1, off1, rfl, hb1, hc1⟩ := HP1.out (by omega)
      have hcell := (hbw.cell (p := ⟨b1, off1 + i, none⟩) hb1).trans (hc1 i hlt)
      have HBW := Lib.hid hbw; clear hbw hc1
      have HT' := Lib.hid (HT.out i)
      have HA' := Lib.hid (HA.out i)
      have HST : Hid (∀ j, cin m f g i (cou m f g k i) (j + 1) = upd (cin m f g i (cou m f g k i) j) (i + j) (addF m (cin m f g i (cou m f g k i) j (i + j)) (mulF m (f i) (g j)))) := Lib.hid fun _ => rfl
      have HEND : Hid (cin m f g i (cou m f g k i) k = cou m f g k (i + 1)) := Lib.hid rfl
      have HSTART : Hid (cou m f g k i = cin m f g i (cou m f g k i) 0) := Lib.hid rfl
      rw [HSTART.out] at HRr
      clear HSTART
      generalize hC : cin m f g i (cou m f g k i) = C at *
      generalize f i = u at *
      go_wp2_with fail
      go_loopw [27] (fun vj ws => ∃ j : Nat, j ≤ k ∧ vj = .int .i64 j ∧ Row ws w.heap.size (.slice (some ⟨w.heap.size, 0, none⟩) N N) (fl (C j) N) ∧ w.heap.size < ws.heap.size ∧ Below w.heap.size w ws) (fun vj _ => k - (intOf vj).toNat)
      case atStart => exact ⟨0, Nat.zero_le _, rfl, HRr.out, hgl', HBW.out⟩
      case round =>
        obtain ⟨j, hjk, rfl, hr, hgl2, hbw⟩ := hrel
        have HRs := Lib.hid hr; clear hr
        by_cases hjlt : j < k
        · obtain ⟨b2, off2, rfl, hb2, hc2⟩ := HP2.out (by omega)
          have hcell2 := (hbw.cell (p := ⟨b2, off2 + j, none⟩) hb2).trans (hc2 j hjlt)
          have HBS := Lib.hid hbw; clear hbw hc2
          have hT2 := Lib.hid (HT'.out j)
          have hA2 := Lib.hid (HA'.out j)
          have HUP := Lib.hid (HST.out j)
          have hz : (i : Int) + (j : Int) = ((i + j : Nat) : Int) := by omega
          have hij : i + j < N := by omega
          have e2 := Row.cell (l := fl (C j) N) (cap := N) (by rw [fl_len]; exact HRs.out) (i + j) (by rw [fl_len]; exact hij)
          rw [fl_get _ _ _ hij] at e2
          have f2 := HRs.out.frozen (by rw [fl_len]) (i + j)
          have HSTO := Lib.hid (fun w' (hr : Row w' w.heap.size (.slice (some ⟨w.heap.size, 0, none⟩) N N) (fl (C j) N)) x => hr.store (by rw [fl_len]) (i + j) x)
          have hsb : i + j ≤ 200 := by omega
          generalize hs : i + j = s at *
          have HSS := Lib.hid hs; clear hs
          have hij' : (s : Int) < (N : Int) := by omega
          have hwr : IntKind.i64.wrap (s : Int) = (s : Int) := by rw [IntKind.wrap_i64]; omega
          have hij2 : ¬ (N : Int) ≤ (s : Int) := by omega
          generalize C j s = y at *
          generalize g j = x at *
          generalize mulF m u x = z at *
          go_wp2_with fail
          go_region_with (first | (go_at_call 50; refine (hT2.out _).mono ?_; rintro e w2 ⟨rfl, hb2⟩; obtain ⟨hc2, hf2⟩ := bcell hb2; (try simp only [World.size_drew] at hc2 hf2); have hz2 := hb2.size; (try simp at hz2); have HB2 := Lib.hid hb2; clear hb2; have l2 : w.heap.size < w2.heap.size := (by omega)) | (go_at_call 48; refine (hA2.out _).mono ?_; rintro e w3 ⟨rfl, hb3⟩; obtain ⟨hc3, hf3⟩ := bcell hb3; (try simp only [World.size_drew] at hc3 hf3); have hz3 := hb3.size; (try simp at hz3); have HB3 := Lib.hid hb3; clear hb3; have l3 : w.heap.size < w3.heap.size := (by omega)))
          all_goals
            go_wp2
            go_roundw
            case rel =>
              have hb2 := HB2.out
              have hb3 := HB3.out
              have hbs := HBS.out
              refine ⟨j + 1, by omega, by go_num, ?_, by simp; omega, by (repeat' (first | (with_reducible assumption) | (with_reducible exact Below.refl _ _) | (with_reducible refine below_drewN ?_ _) | (with_reducible refine Below.drew ?_) | (with_reducible refine Below.alloc ?_ ?_ _) | (with_reducible refine Below.setCell ?_ ?_ _) | (with_reducible refine Below.trans ?_ (Below.mono (by assumption) ?_)) | (with_reducible exact Nat.le_refl _) | (with_reducible assumption) | omega | (simp; omega) | (simp; done)))⟩
              rw [HUP.out, ← fl_set]
              exact HSTO.out _ (HRs.out.below (w' := w3) (by (repeat' (first | (with_reducible assumption) | (with_reducible exact Below.refl _ _) | (with_reducible refine below_drewN ?_ _) | (with_reducible refine Below.drew ?_) | (with_reducible refine Below.alloc ?_ ?_ _) | (with_reducible refine Below.setCell ?_ ?_ _) | (with_reducible refine Below.trans ?_ (Below.mono (by assumption) ?_)) | (with_reducible exact Nat.le_refl _) | (with_reducible assumption) | omega | (simp; omega) | (simp; done))))) _
            case measure => (simp [intOf]; try omega)
        · obtain rfl : k = j := by omega
          rw [HEND.out] at HRs
          have HBS := Lib.hid hbw; clear hbw
          go_wp2
          go_roundw
          case rel => exact ⟨i + 1, by omega, by go_num, HRs.out, hgl2, HBS.out⟩
          case measure => (simp [intOf]; try omega)
    · obtain rfl : n = i := by omega
      have HBW := Lib.hid hbw; clear hbw
      go_wp2_with fail
      refine (HRD.out _ _ HRr.out.sl).mono ?_
      rintro e w2 ⟨v2, rfl, hr2, hb2⟩
      have HR2 := Lib.hid hr2; clear hr2
      have HB2 := Lib.hid hb2; clear hb2
      go_wp2
      go_ret
      exact ⟨_, rfl, HR2.out.mono HBW.out.size, HBW.out.trans (HB2.out.mono HBW.out.size)⟩
end Go.Proofs.Ythklnfanbegecac
