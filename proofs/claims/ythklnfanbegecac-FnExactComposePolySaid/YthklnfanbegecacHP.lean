/- The model's reduction: spec.l1Own, plShort, plReduce by contracts. -/
import Derived.Test.YthklnfanbegecacHE
import Derived.Test.YthklnfanbegecacHC
import Derived.Test.YthklnfanbegecacFG
namespace Go.Proofs.Ythklnfanbegecac
open Go.RowKit
set_option maxHeartbeats 1000000 in
/-- spec.l1Own. -/
theorem l1Own_any (b off cap : Nat) (l : List Int) (w : World) (hb : b < w.heap.size) (hc : ∀ i, i < l.length → w.cell? ⟨b, off + i, none⟩ = some (.int .i64 (l.getD i 0))) (hl : l.length ≤ 1000) :
    Calls Try.prog 72 #[.slice (some ⟨b, off, none⟩) l.length cap] w fun e w' => ∃ v, e = .returned v ∧ Row w' w.heap.size v l ∧ Below w.heap.size w w' := by
  obtain ⟨i0, hi, iz0, iz1, iz2⟩ := info_parts Try.infoI
  have H0 : Hid ((w.alloc (.cells #[] 3)).ownsRow w.heap.size 3 1 (.slice (some ⟨w.heap.size, 0, none⟩) 0 0) 0 []) := Lib.hid (Row.lit0 w)
  have HN : Hid (∀ j u, (l.map (Value.int .i64))[j]? = some u → (w.alloc (.cells #[] 3)).cell? ((⟨b, off, none⟩ : Addr).add j) = some u) := Lib.hid (by
    intro j u hj
    obtain ⟨h1, rfl⟩ := drop_get l 0 j u (by simpa using hj)
    rw [Nat.zero_add] at h1 ⊢
    rw [add_off, World.cell?_alloc_past _ _ _ hb]
    exact hc j h1)
  clear hc
  go_enter Try.func72, Try.ntmps72
  go_wp2_with (at_builtin; refine wpList_append_own _ rfl _ _ 22 rfl w.heap.size 3 i0 (.int .i64 0) 1 8 Try.underlying22 hi iz0 iz1 iz2 rfl (by decide) _ _ _ rfl H0.out ⟨b, off, none⟩ l.length cap (l.map (Value.int .i64)) rfl (by simp) HN.out (ints_one _) (by unfold maxLen; omega) (by omega) (by simp) ?_)
  intro v1 w1 hown hgrow _
  have HR1 := Lib.hid (Row.of (l := l) hown (by simp) (by simp))
  have HB1 : Hid (Below w.heap.size w w1) := Lib.hid (Below.grown (by (repeat' (first | (with_reducible assumption) | (with_reducible exact Below.refl _ _) | (with_reducible refine below_drewN ?_ _) | (with_reducible refine Below.drew ?_) | (with_reducible refine Below.alloc ?_ ?_ _) | (with_reducible refine Below.setCell ?_ ?_ _) | (with_reducible refine Below.trans ?_ (Below.mono (by assumption) ?_)) | (with_reducible exact Nat.le_refl _) | (with_reducible assumption) | omega | (simp; omega) | (simp; done)))) hgrow (by simp) (fun g hg => (H0.out.lt g hg).1))
  clear hown hgrow
  go_wp2
  go_ret
  exact ⟨_, rfl, HR1.out, HB1.out⟩
theorem sn_stop {f : Nat → Int} {k : Nat} (h : f k ≠ 0) : sn f (k + 1) = k + 1 := by simp [sn, h]
theorem sn_go {f : Nat → Int} {k : Nat} (h : f k = 0) : sn f (k + 1) = sn f k := by simp [sn, h]
set_option maxHeartbeats 1000000 in
/-- spec.plShort. -/
theorem plShort_any (g cap n B : Nat) (f : Nat → Int) (w : World) (h : Row w B (.slice (some ⟨g, 0, none⟩) n cap) (fl f n)) (hg : g < w.heap.size) (hn : n ≤ 1000) :
    Calls Try.prog 49 #[.slice (some ⟨g, 0, none⟩) n cap] w fun e w' => ∃ v, e = .returned v ∧ Row w' w.heap.size v (fl f (sn f n)) ∧ Below w.heap.size w w' := by
  have HC : Hid (∀ i, i < n → w.cell? ⟨g, i, none⟩ = some (.int .i64 (f i))) := Lib.hid fun i hi => by
    have := Row.cell (l := fl f n) (cap := cap) (by rw [fl_len]; exact h) i (by rw [fl_len]; exact hi)
    rwa [fl_get _ _ _ hi] at this
  have hcap : n ≤ cap := h.cap
  clear h
  go_enter Try.func49, Try.ntmps49
  go_wp2_with fail
  go_loop [3] (fun vk => ∃ k : Nat, k ≤ n ∧ vk = .int .i64 k ∧ sn f k = sn f n) (fun vk => (intOf vk).toNat)
  case atStart => exact ⟨n, Nat.le_refl _, rfl, rfl⟩
  case round =>
    obtain ⟨k, hk, rfl, hs⟩ := hrel
    have HS := Lib.hid hs; clear hs
    have hO : sn f n = k → Hid (∀ i, i < (fl f k).length → w.cell? ⟨g, 0 + i, none⟩ = some (.int .i64 ((fl f k).getD i 0))) := fun _ => Lib.hid fun i hi => by
      rw [fl_len] at hi
      rw [fl_get _ _ _ hi, Nat.zero_add]
      exact HC.out i (by omega)
    by_cases h0 : k = 0
    · subst h0
      have e : sn f n = 0 := HS.out.symm
      have HOO := hO e
      have HE := Lib.hid e
      clear hO e
      have ho := fun w' (hw : w' = w) => l1Own_any g 0 cap (fl f 0) w' (by rw [hw]; exact hg) (by rw [hw]; exact HOO.out) (by rw [fl_len]; omega)
      rw [fl_len] at ho
      have HO := Lib.hid (ho w rfl)
      clear ho
      go_wp2_with fail
      refine HO.out.mono ?_
      rintro e w1 ⟨v, rfl, hr, hb⟩
      have HR := Lib.hid hr; clear hr
      have HB := Lib.hid hb; clear hb
      go_wp2
      go_ret
      exact ⟨_, rfl, by rw [HE.out]; exact HR.out, HB.out⟩
    · obtain ⟨j, rfl⟩ : ∃ j, k = j + 1 := ⟨k - 1, by omega⟩
      have hc := HC.out j (by omega)
      have hz : (((j + 1 : Nat) : Int) - 1) = (j : Int) := by omega
      have hpos : (0 : Int) < ((j + 1 : Nat) : Int) := by omega
      have hjn : j < n := by omega
      by_cases hu : f j = 0
      · have HS2 : Hid (sn f j = sn f n) := Lib.hid (by rw [← HS.out, sn_go hu])
        rw [hu] at hc
        clear hO hu
        go_wp2
        go_round
        case rel => exact ⟨j, by omega, by go_num, HS2.out⟩
        case measure => (simp [intOf]; try omega)
      · have e : sn f n = j + 1 := by rw [← HS.out, sn_stop hu]
        have HOO := hO e
        have HE := Lib.hid e
        have hne : (f j == 0) = false := by simpa using hu
        clear hO e hu
        have ho := fun w' (hw : w' = w) => l1Own_any g 0 cap (fl f (j + 1)) w' (by rw [hw]; exact hg) (by rw [hw]; exact HOO.out) (by rw [fl_len]; omega)
        rw [fl_len] at ho
        have HO := Lib.hid (ho w rfl)
        clear ho
        generalize f j = u at *
        go_wp2_with fail
        refine HO.out.mono ?_
        rintro e w1 ⟨v, rfl, hr, hb⟩
        have HR := Lib.hid hr; clear hr
        have HB := Lib.hid hb; clear hb
        go_wp2
        go_ret
        exact ⟨_, rfl, by rw [HE.out]; exact HR.out, HB.out⟩
theorem redR_zero (q : Nat) (c : Nat → Int) : List.replicate q 0 = fl (redR q c 0) q := by
  refine List.ext_getElem (by simp [fl]) fun j h1 h2 => ?_
  simp [fl, redR]
set_option maxHeartbeats 2000000 in
/-- spec.plReduce. -/
theorem plReduce_any (m : Nat) (v : Value) (c : Nat → Int) (n : Nat) (w : World) (h : isSz (m : Int) = true) (hv : Sl w v (fl c n)) (hc : ∀ i, El (m : Int) (c i)) (hn : n ≤ 1000) :
    Calls Try.prog 51 #[.int .i64 m, v] w fun e w' => ∃ v', e = .returned v' ∧ Row w' w.heap.size v' (fl (redR m c n) (redn m c n)) ∧ Below w.heap.size w w' := by
  obtain ⟨i0, hi, iz0, iz1, iz2⟩ := info_parts Try.infoI
  have hq := isSz_le (m : Int) h
  have HP := Lib.hid (fun (i : Nat) w => fdPlus_any (m : Int) (redR m c i (idx m i)) (c i) w h (redR_el m c h hc i _).1 (redR_el m c h hc i _).2 (hc i).1 (hc i).2)
  have HCC : Hid (0 < n → ∃ b off cap, v = .slice (some ⟨b, off, none⟩) n cap ∧ b < w.heap.size ∧ ∀ i, i < n → w.cell? ⟨b, off + i, none⟩ = some (.int .i64 (c i))) := Lib.hid fun h0 => by
    obtain ⟨b, off, cap, rfl, hb, hcc⟩ := hv.open (fl_len _ _) h0
    exact ⟨b, off, cap, rfl, hb, fun i hi => by have := hcc i hi; rwa [fl_get _ _ _ hi] at this⟩
  have HF : Hid (∃ a cap, v = .slice a n cap) := Lib.hid (by obtain ⟨a, cap, e⟩ := hv.form; rw [fl_len] at e; exact ⟨a, cap, e⟩)
  clear hv
  have HSH := Lib.hid (fun g w' (hr : Row w' w.heap.size (.slice (some ⟨g, 0, none⟩) m m) (fl (redR m c n) m)) (hg : g < w'.heap.size) => plShort_any g m m w.heap.size (redR m c n) w' hr hg (by omega))
  have HID := Lib.hid (idx_step m)
  have HIS := Lib.hid (idx_small m)
  have HIL := Lib.hid (fun k => idx_lt m k (by omega))
  clear h hc
  by_cases h0 : 0 < n
  · obtain ⟨b, off, cap, rfl, hb, hcc⟩ := HCC.out h0
    have HCL := Lib.hid hcc
    clear hcc HCC HF
    go_enter Try.func51, Try.ntmps51
    go_wp2_with (at_make; refine wpList_make_full _ rfl _ _ 22 rfl w.heap.size 3 i0 (.int .i64 0) 1 Try.underlying22 hi iz0 iz1 .i64 .i64 _ _ m rfl rfl rfl rfl ?c3 ?c4 ?c5 ?_)
    case c3 => rw [iz2]; omega
    case c4 => unfold maxLen; omega
    case c5 => omega
    intro w1 hown hgrow
    have HR : Hid (Row w1 w.heap.size (.slice (some ⟨w.heap.size, 0, none⟩) m m) (fl (redR m c 0) m)) := Lib.hid (by
      have := Row.madeF (fun _ => 0) hown
      rw [← redR_zero m c, show List.replicate m (0 : Int) = fl (part0 (fun _ => 0) 0) m from part0_zero _ _]
      exact this)
    have HB := Lib.hid ((Below.refl w.heap.size w).grown hgrow (Nat.le_refl _) (fun k hk => by cases hk))
    have hgl : w.heap.size < w1.heap.size := (HR.out.lt w.heap.size rfl).2
    clear hown hgrow
    go_wp2_with fail
    go_loopw [12] (fun vi wr => ∃ i : Nat, i ≤ n ∧ vi = .int .i64 i ∧ Row wr w.heap.size (.slice (some ⟨w.heap.size, 0, none⟩) m m) (fl (redR m c i) m) ∧ w.heap.size < wr.heap.size ∧ Below w.heap.size w wr) (fun vi _ => n - (intOf vi).toNat)
    case atStart => exact ⟨0, Nat.zero_le _, rfl, HR.out, hgl, HB.out⟩
    case round =>
      obtain ⟨i, hin, rfl, hr, hgl', hbw⟩ := hrel
      have HRr := Lib.hid hr; clear hr
      by_cases hlt : i < n
      · have hcell := (hbw.cell (p := ⟨b, off + i, none⟩) hb).trans (HCL.out i hlt)
        have HBW := Lib.hid hbw; clear hbw
        have HP' := Lib.hid (HP.out i)
        generalize hci : c i = u at *
        have HCI := Lib.hid hci; clear hci
        go_wp2_with fail
        go_loopw [6] (fun vk ws => ∃ k : Nat, k ≤ i ∧ vk = .int .i64 k ∧ idx m k = idx m i ∧ ws = wr) (fun vk _ => (intOf vk).toNat)
        case atStart => exact ⟨i, Nat.le_refl _, rfl, rfl, rfl⟩
        case round =>
          obtain ⟨k, hki, rfl, hid, rfl⟩ := hrel
          have HIDD := Lib.hid hid; clear hid
          by_cases hbig : m ≤ k
          · have HSS : Hid (idx m (k - (m - 1)) = idx m i) := Lib.hid (by rw [HID.out k (by omega) hbig]; exact HIDD.out)
            have hb1 : (m : Int) ≤ (k : Int) := by omega
            go_wp2
            go_roundw
            case rel => exact ⟨k - (m - 1), by omega, by go_num, HSS.out, by first | rfl | trivial⟩
            case measure => (simp [intOf]; try omega)
          · have hk2 : k < m := by omega
            have hb1 : ¬ (m : Int) ≤ (k : Int) := by omega
            have e : k = idx m i := by rw [← HIDD.out, HIS.out k hk2]
            have e2 := Row.cell (l := fl (redR m c i) m) (cap := m) (by rw [fl_len]; exact HRr.out) k (by rw [fl_len]; exact hk2)
            rw [fl_get _ _ _ hk2] at e2
            have f2 := HRr.out.frozen (by rw [fl_len]) k
            have HST := Lib.hid (fun w' (hr : Row w' w.heap.size (.slice (some ⟨w.heap.size, 0, none⟩) m m) (fl (redR m c i) m)) x => hr.store (by rw [fl_len]) k x)
            have HPK : Hid (∀ w, Calls Try.prog 48 #[.int .i64 m, .int .i64 (redR m c i k), .int .i64 u] w fun e w' => e = .returned (.int .i64 (addF m (redR m c i k) u)) ∧ Below w.heap.size w w') := Lib.hid (by rw [e]; exact HP'.out)
            have HUP : Hid (redR m c (i + 1) = upd (redR m c i) k (addF m (redR m c i k) u)) := Lib.hid (by rw [e, ← HCI.out]; rfl)
            clear HP' e
            generalize redR m c i k = y at *
            go_wp2_with fail
            refine (HPK.out _).mono ?_
            rintro e w2 ⟨rfl, hb2⟩
            have hr2 := HRr.out.below hb2
            have e3 := Row.cell (l := fl (redR m c i) m) (cap := m) (by rw [fl_len]; exact hr2) k (by rw [fl_len]; exact hk2)
            have f3 := hr2.frozen (by rw [fl_len]) k
            have HR2 := Lib.hid (HST.out _ hr2 (addF m y u))
            have hz2 := hb2.size
            have HB2 := Lib.hid (HBW.out.trans (hb2.mono HBW.out.size))
            clear hr2 hb2 e2 f2
            generalize (fl (redR m c i) m).getD k 0 = y2 at *
            go_wp2
            go_roundw
            case rel =>
              refine ⟨i + 1, by omega, by go_num, ?_, by simp; omega, HB2.out.setCell (Nat.le_refl _) _⟩
              rw [HUP.out, ← fl_set]
              exact HR2.out
            case measure => (simp [intOf]; try omega)
      · obtain rfl : n = i := by omega
        have HBW := Lib.hid hbw; clear hbw
        go_wp2_with fail
        refine (HSH.out _ _ HRr.out hgl').mono ?_
        rintro e w2 ⟨v2, rfl, hr2, hb2⟩
        have HR2 := Lib.hid hr2; clear hr2
        have HB2 := Lib.hid hb2; clear hb2
        go_wp2
        go_ret
        exact ⟨_, rfl, HR2.out.mono HBW.out.size, HBW.out.trans (HB2.out.mono HBW.out.size)⟩
  · obtain rfl : n = 0 := by omega
    obtain ⟨a, cap, rfl⟩ := HF.out
    clear HF HCC h0
    go_enter Try.func51, Try.ntmps51
    go_wp2_with (at_make; refine wpList_make_full _ rfl _ _ 22 rfl w.heap.size 3 i0 (.int .i64 0) 1 Try.underlying22 hi iz0 iz1 .i64 .i64 _ _ m rfl rfl rfl rfl ?c3 ?c4 ?c5 ?_)
    case c3 => rw [iz2]; omega
    case c4 => unfold maxLen; omega
    case c5 => omega
    intro w1 hown hgrow
    have HR : Hid (Row w1 w.heap.size (.slice (some ⟨w.heap.size, 0, none⟩) m m) (fl (redR m c 0) m)) := Lib.hid (by
      have := Row.madeF (fun _ => 0) hown
      rw [← redR_zero m c, show List.replicate m (0 : Int) = fl (part0 (fun _ => 0) 0) m from part0_zero _ _]
      exact this)
    have HB := Lib.hid ((Below.refl w.heap.size w).grown hgrow (Nat.le_refl _) (fun k hk => by cases hk))
    have hgl : w.heap.size < w1.heap.size := (HR.out.lt w.heap.size rfl).2
    clear hown hgrow
    go_wp2_with fail
    refine wp_loop_rounds 1 ?_
    rw [rounds_succ]
    go_wp2_with fail
    refine (HSH.out _ _ HR.out hgl).mono ?_
    rintro e w2 ⟨v2, rfl, hr2, hb2⟩
    have HR2 := Lib.hid hr2; clear hr2
    have HB2 := Lib.hid hb2; clear hb2
    go_wp2
    go_ret
    exact ⟨_, rfl, HR2.out.mono HB.out.size, HB.out.trans (HB2.out.mono HB.out.size)⟩
end Go.Proofs.Ythklnfanbegecac
