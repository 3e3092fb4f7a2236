/- The model's sum: spec.plPlus by a contract. -/
import Derived.Test.YthklnfanbegecacHX
import Derived.Laws.CopyOwn
namespace Go.Proofs.Ythklnfanbegecac
open Go.RowKit
theorem l1Most_any (n k : Nat) (w : World) : Calls Try.prog 47 #[.int .i64 n, .int .i64 k] w fun e w' => e = .returned (.int .i64 ((max n k : Nat) : Int)) ∧ w' = w := by
  by_cases h : k < n
  · have h1 : (k : Int) < (n : Int) := by omega
    rw [Nat.max_eq_left (by omega)]
    go_enter Try.func47, Try.ntmps47
    go_wp2
    go_ret
    exact ⟨rfl, rfl⟩
  · have h1 : ¬ (k : Int) < (n : Int) := by omega
    rw [Nat.max_eq_right (by omega)]
    go_enter Try.func47, Try.ntmps47
    go_wp2
    go_ret
    exact ⟨rfl, rfl⟩
theorem Row.whole {w : World} {B g N : Nat} {l : List Int} (h : Row w B (.slice (some ⟨g, 0, none⟩) N N) l) (hl : l.length = N) : w.heap[g]? = some (.cells ((l.map (Value.int .i64)).toArray) 3 (0, 0)) := by
  rcases h.2 with ⟨h', _⟩ | ⟨g', cap', cur, h', _, hh, _, _, hs, hx⟩
  · simp at h'
  · simp at h'
    obtain ⟨rfl, h2, rfl⟩ := h'
    rw [hl, List.take_of_length_le (by rw [Array.length_toList, hs]; exact Nat.le_refl _)] at hx
    rw [← hx]
    exact hh
theorem Row.heap {w : World} {B g N : Nat} {l : List Int} (h : w.heap[g]? = some (.cells ((l.map (Value.int .i64)).toArray) 3 (0, 0))) (hB : B ≤ g) (hl : l.length = N) (hN : N ≤ maxLen) : Row w B (.slice (some ⟨g, 0, none⟩) N N) l := by
  subst hl
  refine ⟨by simp, .inr ⟨g, l.length, _, rfl, hB, h, Nat.le_refl _, hN, by simp, ?_⟩⟩
  rw [List.take_of_length_le (by simp)]
theorem fl_pad {f : Nat → Int} {n N : Nat} (h : n ≤ N) (hz : ∀ i, n ≤ i → f i = 0) (u : Int → Value) : splice ((List.replicate N (0 : Int)).map u) 0 ((fl f n).map u) = (fl f N).map u := by
  unfold splice
  refine List.ext_getElem (by simp [fl]; omega) fun j h1 h2 => ?_
  simp [fl]
  by_cases hj : j < n
  · rw [List.getElem_append_left (by simpa using hj)]
    simp
  · rw [List.getElem_append_right (by simp; omega)]
    simp
    rw [hz j (by omega)]
set_option maxHeartbeats 2000000 in
/-- spec.plPlus. -/
theorem plPlus_any (m n k : Nat) (v1 v2 : Value) (f g : Nat → Int) (w : World) (h : isSz (m : Int) = true) (hv1 : Sl w v1 (fl f n)) (hv2 : Sl w v2 (fl g k)) (hf : ∀ i, El (m : Int) (f i)) (hg : ∀ i, El (m : Int) (g i)) (zf : ∀ i, n ≤ i → f i = 0) (zg : ∀ i, k ≤ i → g i = 0) (hn : n ≤ 100) (hk : k ≤ 100) :
    Calls Try.prog 30 #[.int .i64 m, v1, v2] w fun e w' => ∃ v', e = .returned v' ∧ Row w' w.heap.size v' (fl (pls m f g) (sn (pls m f g) (max n k))) ∧ Below w.heap.size w w' := by
  obtain ⟨i0, hi, iz0, iz1, iz2⟩ := info_parts Try.infoI
  have HM := Lib.hid (l1Most_any n k)
  have HPI : Hid (∀ i j, El (m : Int) (plI m f g i j)) := Lib.hid fun i j => by
    unfold plI
    split
    · exact (hf j).add h (hg j)
    · exact hf j
  have HA := Lib.hid (fun (i : Nat) w => fdPlus_any (m : Int) (plI m f g i i) (g i) w h (HPI.out i i).1 (HPI.out i i).2 (hg i).1 (hg i).2)
  have HALL := Lib.hid (plI_all h hf k zg)
  have HSTEP := Lib.hid (plI_step (m : Int) f g)
  have HPAD := Lib.hid (fl_pad (f := f) (n := n) (N := max n k) (Nat.le_max_left _ _) zf (Value.int .i64))
  have HP0 : Hid (plI m f g 0 = f) := Lib.hid (by funext j; simp [plI])
  have hNn : n ≤ max n k := Nat.le_max_left _ _
  have hNk : k ≤ max n k := Nat.le_max_right _ _
  have hN1 : max n k ≤ 100 := by omega
  obtain ⟨a1, cap1, rfl, p1⟩ := hv1.parts
  obtain ⟨a2, cap2, rfl, p2⟩ := hv2.parts
  have HP1 := Lib.hid p1
  have HP2 := Lib.hid p2
  clear p1 p2 hv1 hv2 hf hg h HPI zf zg
  generalize max n k = N at *
  have HSH := Lib.hid (fun gg w' (hr : Row w' w.heap.size (.slice (some ⟨gg, 0, none⟩) N N) (fl (pls m f g) N)) (hg : gg < w'.heap.size) => plShort_any gg N N w.heap.size (pls m f g) w' hr hg (by omega))
  obtain ⟨X, hX⟩ : ∃ X, X = (fl f n).map (Value.int .i64) := ⟨_, rfl⟩
  have HXL : X.length = n := by rw [hX, List.length_map, fl_len]
  have HX1 : Hid (∀ u ∈ X, u.oneCell' = true) := Lib.hid (by rw [hX]; exact ints_one _)
  have HSRC : Hid (0 < n → ∃ ad, a1 = some ad ∧ ∀ w', Below w.heap.size w w' → ∀ (j : Nat) (v : Value), X[j]? = some v → w'.cell? (ad.add j) = some v) := Lib.hid fun h0 => by
    obtain ⟨b, off, e, hb, hc⟩ := HP1.out h0
    refine ⟨_, e, fun w' hbw j v hj => ?_⟩
    rw [hX, List.getElem?_map] at hj
    obtain ⟨x, hx, rfl⟩ := Option.map_eq_some_iff.1 hj
    have hjn : j < n := by have := (List.getElem?_eq_some_iff.1 hx).1; rwa [fl_len] at this
    have hx2 := fl_get f n j hjn
    rw [add_off, hbw.cell (p := ⟨b, off + j, none⟩) hb, hc j hjn, ← hx2]
    simp [List.getD, hx]
  have HXE := Lib.hid hX; clear hX HP1
  go_enter Try.func30, Try.ntmps30
  go_wp2_with fail
  refine (HM.out _).mono ?_
  rintro e w0 ⟨rfl, rfl⟩
  go_wp2_with (at_make; refine wpList_make_full _ rfl _ _ 22 rfl w0.heap.size 3 i0 (.int .i64 0) 1 Try.underlying22 hi iz0 iz1 .i64 .i64 _ _ N rfl rfl rfl rfl ?c3 ?c4 ?c5 ?_)
  case c3 => rw [iz2]; omega
  case c4 => unfold maxLen; omega
  case c5 => omega
  intro w1 hown hgrow
  have HR : Hid (Row w1 w0.heap.size (.slice (some ⟨w0.heap.size, 0, none⟩) N N) (List.replicate N 0)) := Lib.hid (by
    have := Row.madeF (fun _ => 0) hown
    rw [show List.replicate N (0 : Int) = fl (part0 (fun _ => 0) 0) N from part0_zero _ _]
    exact this)
  have HB := Lib.hid ((Below.refl w0.heap.size w0).grown hgrow (Nat.le_refl _) (fun k hk => by cases hk))
  have HW := Lib.hid (HR.out.whole (by simp))
  have hXm : X.length = Nat.min n N := by rw [HXL]; exact (Nat.min_eq_left hNn).symm
  have hsz : (Try.prog.info? 3).map (fun i => i.size) = some 1 := by rw [hi]; simp [iz1]
  clear hown hgrow
  go_wp2_with (with_reducible refine wpList_copy_splice rfl _ _ 22 22 rfl 3 Try.underlying22 hsz _ _ _ _ _ _ rfl rfl w0.heap.size 0 _ 3 HW.out X hXm ?d2 ?d3 HX1.out w0.heap.size w0 HB.out (Nat.le_refl _) ?_)
  case d2 => exact fun h0 => by obtain ⟨ad, e, hc⟩ := HSRC.out h0; exact ⟨ad, e, hc _ HB.out⟩
  case d3 => rw [List.length_map, List.length_replicate, HXL]; omega
  intro w2 HG2 hb2
  have HR2 : Hid (Row w2 w0.heap.size (.slice (some ⟨w0.heap.size, 0, none⟩) N N) (fl (plI m f g 0) N)) := Lib.hid (by
    rw [HP0.out]
    have hh := HG2.out
    have hp := HPAD.out
    rw [List.map_replicate] at hp
    rw [HXE.out, hp] at hh
    exact Row.heap hh (Nat.le_refl _) (fl_len _ _) (by unfold maxLen; omega))
  have HB2 := Lib.hid hb2
  have hgl : w0.heap.size < w2.heap.size := (HR2.out.lt w0.heap.size rfl).2
  clear hb2 HG2 HR HW HXE HXL HX1 hXm
  go_wp2_with fail
  go_loopw [21] (fun vi wr => ∃ i : Nat, i ≤ k ∧ vi = .int .i64 i ∧ Row wr w0.heap.size (.slice (some ⟨w0.heap.size, 0, none⟩) N N) (fl (plI m f g i) N) ∧ w0.heap.size < wr.heap.size ∧ Below w0.heap.size w0 wr) (fun vi _ => k - (intOf vi).toNat)
  case atStart => exact ⟨0, Nat.zero_le _, rfl, HR2.out, hgl, HB2.out⟩
  case round =>
    obtain ⟨i, hin, rfl, hr, hgl', hbw⟩ := hrel
    have HRr := Lib.hid hr; clear hr
    by_cases hlt : i < k
    · obtain ⟨b2, off2, rfl, hb2, hc2⟩ := HP2.out (by omega)
      have hcell := (hbw.cell (p := ⟨b2, off2 + i, none⟩) hb2).trans (hc2 i hlt)
      have HBW := Lib.hid hbw; clear hbw hc2
      have HA' := Lib.hid (HA.out i)
      have hiN : i < N := by omega
      have HUP := Lib.hid (HSTEP.out i)
      have e2 := Row.cell (l := fl (plI m f g i) N) (cap := N) (by rw [fl_len]; exact HRr.out) i (by rw [fl_len]; exact hiN)
      rw [fl_get _ _ _ hiN] at e2
      have f2 := HRr.out.frozen (by rw [fl_len]) i
      have HST := Lib.hid (fun w' (hr : Row w' w0.heap.size (.slice (some ⟨w0.heap.size, 0, none⟩) N N) (fl (plI m f g i) N)) x => hr.store (by rw [fl_len]) i x)
      have HCC := Lib.hid (fun w' (hr : Row w' w0.heap.size (.slice (some ⟨w0.heap.size, 0, none⟩) N N) (fl (plI m f g i) N)) => Row.cell (l := fl (plI m f g i) N) (cap := N) (by rw [fl_len]; exact hr) i (by rw [fl_len]; exact hiN))
      generalize plI m f g i i = y at *
      generalize g i = u at *
      go_wp2_with fail
      refine (HA'.out _).mono ?_
      rintro e w3 ⟨rfl, hb3⟩
      have hr3 := HRr.out.below hb3
      have e3 := HCC.out _ hr3
      have f3 := hr3.frozen (by rw [fl_len]) i
      have HR3 := Lib.hid (HST.out _ hr3 (addF m y u))
      have hz3 := hb3.size
      have HB3 := Lib.hid (HBW.out.trans (hb3.mono HBW.out.size))
      clear hr3 hb3 e2 f2
      generalize (fl (plI m f g i) N).getD i 0 = y2 at *
      go_wp2
      go_roundw
      case rel =>
        refine ⟨i + 1, by omega, by go_num, ?_, by simp; omega, HB3.out.setCell (Nat.le_refl _) _⟩
        rw [HUP.out, ← fl_set]
        exact HR3.out
      case measure => (simp [intOf]; try omega)
    · obtain rfl : k = i := by omega
      have HBW := Lib.hid hbw; clear hbw
      rw [HALL.out] at HRr
      go_wp2_with fail
      refine (HSH.out _ _ HRr.out hgl').mono ?_
      rintro e w3 ⟨v3, rfl, hr3, hb3⟩
      have HR3 := Lib.hid hr3; clear hr3
      have HB3 := Lib.hid hb3; clear hb3
      go_wp2
      go_ret
      exact ⟨_, rfl, HR3.out.mono HBW.out.size, HBW.out.trans (HB3.out.mono HBW.out.size)⟩
end Go.Proofs.Ythklnfanbegecac
