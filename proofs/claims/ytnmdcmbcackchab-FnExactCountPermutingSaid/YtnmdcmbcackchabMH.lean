/- spec.peAll.try, by a contract. -/
import Derived.Test.YtnmdcmbcackchabMG
namespace Go.Proofs.Ytnmdcmbcackchab
open Go.RowKit
theorem owns_slice {w : World} {B n : Nat} {e : TypeId} {s : Nat} {v : Value} {xs : List Value} (h : w.ownsRow B e s v n xs) : ∃ a cap, v = .slice a n cap := by
  rcases h.2 with ⟨rfl, rfl⟩ | ⟨g, cap, cur, rfl, _⟩
  · exact ⟨_, _, rfl⟩
  · exact ⟨_, _, rfl⟩
/-- A copy of the coefficients. -/
theorem pf_own (m d J G : Nat) (B : Nat) (w : World) (hr : Row w B (.slice (some ⟨G, 0, none⟩) (d + 1) (d + 1)) (fl (pf m d J) (d + 1))) (hd : d < 16) :
    Calls Try.prog 77 #[.slice (some ⟨G, 0, none⟩) (d + 1) (d + 1)] w fun e w' => ∃ v, e = .returned v ∧ Row w' w.heap.size v (fl (pf m d J) (d + 1)) ∧ Below w.heap.size w w' := by
  have := l1Own_any G 0 (d + 1) (fl (pf m d J) (d + 1)) w (hr.lt G rfl).2 (fun i hi => by
    have h1 := Row.cell (l := fl (pf m d J) (d + 1)) (cap := d + 1) (by rw [fl_len]; exact hr) i hi
    rw [Nat.zero_add]
    exact h1) (by rw [fl_len]; omega)
  rw [fl_len] at this
  exact this
set_option maxRecDepth 100000 in
set_option maxHeartbeats 4000000 in
theorem try_leaf (m d : Nat) (h : isSz (m : Int) = true) (hd : d < m) (j W G B : Nat) (vf : Value) (L : List Nat) (X : Nat → Value) (w0 w : World) (hc : L.length + 1 ≤ 1000000) (ht : TN w0 w W G B m d j vf L X) :
    Calls Try.prog 48 #[.pointer (some ⟨W, 0, none⟩), .slice (some ⟨G, 0, none⟩) (d + 1) (d + 1), .int .i64 0, .bool true] w fun e w' => e = .returned (.tuple #[]) ∧ ∃ vf' X', TN w0 w' W G B m d j vf' (L ++ sgl m d 0 j) X' := by
  obtain ⟨j0, hj, jz0, jz1, jz2⟩ := info_parts Try.infoR
  have hq := isSz_le (m : Int) h
  obtain ⟨c0, c1, c2, cf, cl⟩ := cells3 ht.tz.ww
  have HPN := Lib.hid (peNormal_any m (d + 1) _ (pf m d j) w h ht.tz.ff.sl (by omega))
  have HV := Lib.hid (fun w' (ht : TN w0 w' W G B m d j vf L X) => pf_values m d j _ w' h hd ht.tz.ff.sl)
  have HPP : Hid (dis (tabF (m : Int) (pf m d j) (d + 1)) m = pp m d j) := Lib.hid rfl
  have HD := Lib.hid (fun v w' (hv : Sl w' v (fl (tabF (m : Int) (pf m d j) (d + 1)) m)) hcap => peDoes_any v (tabF (m : Int) (pf m d j) (d + 1)) m w' hv hcap (by omega))
  rw [HPP.out] at HD
  have HSG : Hid (L ++ sgl m d 0 j = if nrm m (pf m d j) (d + 1) && pp m d j then L ++ [j] else L) := Lib.hid (by
    show L ++ (if kp m d j then [j] else []) = _
    unfold kp
    split
    · rfl
    · simp)
  rw [HSG.out]
  have HT := Lib.hid ht
  clear ht h HPP
  generalize pp m d j = r at *
  generalize nrm m (pf m d j) (d + 1) = s at *
  cases s with
  | false =>
    go_enter Try.func48, Try.ntmps48
    go_wp2_with fail
    refine HPN.out.mono ?_
    rintro e w1 ⟨rfl, hb1⟩
    have HT1 := Lib.hid (HT.out.below hb1)
    clear hb1
    go_wp2
    refine bodyPost_ret (results_none rfl _ _ _) rfl ?_
    exact ⟨rfl, _, _, HT1.out⟩
  | true =>
    go_enter Try.func48, Try.ntmps48
    go_wp2_with fail
    refine HPN.out.mono ?_
    rintro e w1 ⟨rfl, hb1⟩
    have hT1 := HT.out.below hb1
    obtain ⟨a0, a1, a2, af, al⟩ := cells3 hT1.tz.ww
    have HT1 := Lib.hid hT1
    clear hb1 hT1
    go_wp2_with fail
    refine (HV.out _ HT1.out).mono ?_
    rintro e w2 ⟨v2, rfl, hr2, hb2⟩
    have hT2 := HT1.out.below hb2
    have HD' := Lib.hid (HD.out v2 w2 hr2.sl hr2.capv)
    clear hr2 hb2
    go_wp2_with fail
    refine HD'.out.mono ?_
    rintro e w3 ⟨rfl, rfl⟩
    obtain ⟨b0, b1, b2, bf, bl⟩ := cells3 hT2.tz.ww
    have HT2 := Lib.hid hT2
    clear hT2
    cases r with
    | false =>
      go_wp2
      refine bodyPost_ret (results_none rfl _ _ _) rfl ?_
      exact ⟨rfl, _, _, HT2.out⟩
    | true =>
      have hneW : ∀ g, vf.ownBlock = some g → g ≠ W := fun g hg => by
        have h1 := (HT2.out.rs.lt g hg).1
        have h2 := HT2.out.wb
        omega
      have HNE := Lib.hid hneW
      clear hneW
      have hCW : ∀ w', Below w2.heap.size (w2.setCell ⟨W, 1, none⟩ (.int .i64 ((L.length : Int) + 1))) w' → w'.heap[W]? = some (.cells #[.int .i64 m, .int .i64 ((L.length : Int) + 1), vf] 62 (0, 0)) := fun w' hb => (hb.block _ bl).trans (HT2.out.tz.count (L.length + 1)).ww
      have hFF : ∀ w', Below w2.heap.size (w2.setCell ⟨W, 1, none⟩ (.int .i64 ((L.length : Int) + 1))) w' → Row w' w0.heap.size (.slice (some ⟨G, 0, none⟩) (d + 1) (d + 1)) (fl (pf m d j) (d + 1)) := fun w' hb => (HT2.out.tz.count (L.length + 1)).ff.below (by simpa using hb)
      have hOW : ∀ w', Below w2.heap.size (w2.setCell ⟨W, 1, none⟩ (.int .i64 ((L.length : Int) + 1))) w' → w'.ownsRow B 22 1 vf L.length (flv X L.length) := fun w' hb => outer_kept HT2.out.rs.outer fun g hg => (hb.block _ (HT2.out.rs.lt g hg).2).trans (heap_setCell_other _ _ _ _ (HNE.out g hg))
      have HCW := Lib.hid hCW
      have HOW := Lib.hid hOW
      have HLO := Lib.hid (fun w' (hb : Below w2.heap.size (w2.setCell ⟨W, 1, none⟩ (.int .i64 ((L.length : Int) + 1))) w') => pf_own m d j G w0.heap.size w' (hFF w' hb) (by omega))
      clear hCW hFF hOW
      have hBz := HT2.out.hi
      have hWB := HT2.out.wb
      have hwb2 : Below w2.heap.size (w2.setCell ⟨W, 1, none⟩ (.int .i64 ((L.length : Int) + 1))) (w2.setCell ⟨W, 1, none⟩ (.int .i64 ((L.length : Int) + 1))) := Below.refl _ _
      go_wp2_with fail
      go_region_law (first
        | (refine step_append_own rfl (.tmp 40) (.tmp 43) 32 rfl B 22 j0 (.slice none 0 0) 1 24 Try.underlying32 hj jz0 jz1 jz2 rfl (by decide) vf L.length (flv X L.length) (by simp [Act.eval]) (HOW.out _ (by have hb5 := HB5.out; (repeat' (first | (with_reducible assumption) | (with_reducible exact Below.refl _ _) | (with_reducible refine below_drewN ?_ _) | (with_reducible refine Below.drew ?_) | (with_reducible refine Below.alloc ?_ ?_ _) | (with_reducible refine Below.setCell ?_ ?_ _) | (with_reducible refine Below.trans ?_ (Below.mono (by assumption) ?_)) | (with_reducible exact Nat.le_refl _) | (with_reducible assumption) | omega | (simp; omega) | (simp; done))))) ⟨w5.heap.size, 0, none⟩ 1 1 [.slice a5 (d + 1) c5] (by simp [Act.eval]) rfl (cell_one_new _ _ _) (by intro u hu; simp at hu; subst hu; rfl) (by unfold maxLen; omega) (by omega) (by simp; omega) ?_; intro v7 w7 hown hgrow; obtain ⟨a7, c7, rfl⟩ := owns_slice hown; have HOWN := Lib.hid hown; have HGR := Lib.hid hgrow; obtain ⟨z0, z1, z2, zf, zl⟩ := cells3 ((hgrow.block W (by simp; omega) (fun e => HNE.out W e.symm rfl)).trans (HCW.out (w5.alloc (.cells #[.slice a5 (d + 1) c5] 22)) (by have hb5 := HB5.out; (repeat' (first | (with_reducible assumption) | (with_reducible exact Below.refl _ _) | (with_reducible refine below_drewN ?_ _) | (with_reducible refine Below.drew ?_) | (with_reducible refine Below.alloc ?_ ?_ _) | (with_reducible refine Below.setCell ?_ ?_ _) | (with_reducible refine Below.trans ?_ (Below.mono (by assumption) ?_)) | (with_reducible exact Nat.le_refl _) | (with_reducible assumption) | omega | (simp; omega) | (simp; done)))))); clear hown hgrow)
        | (go_simp; go_wp2_with (go_at_call 77; refine (HLO.out _ (by (repeat' (first | (with_reducible assumption) | (with_reducible exact Below.refl _ _) | (with_reducible refine below_drewN ?_ _) | (with_reducible refine Below.drew ?_) | (with_reducible refine Below.alloc ?_ ?_ _) | (with_reducible refine Below.setCell ?_ ?_ _) | (with_reducible refine Below.trans ?_ (Below.mono (by assumption) ?_)) | (with_reducible exact Nat.le_refl _) | (with_reducible assumption) | omega | (simp; omega) | (simp; done))))).mono ?_; rintro e w5 ⟨u5, rfl, hr5, hb5⟩; obtain ⟨a5, c5, hu5⟩ := hr5.sl.form; rw [fl_len] at hu5; subst hu5; have HR5 := Lib.hid hr5; have HB5 := Lib.hid (show Below w2.heap.size (w2.setCell ⟨W, 1, none⟩ (.int .i64 ((L.length : Int) + 1))) w5 by (repeat' (first | (with_reducible assumption) | (with_reducible exact Below.refl _ _) | (with_reducible refine below_drewN ?_ _) | (with_reducible refine Below.drew ?_) | (with_reducible refine Below.alloc ?_ ?_ _) | (with_reducible refine Below.setCell ?_ ?_ _) | (with_reducible refine Below.trans ?_ (Below.mono (by assumption) ?_)) | (with_reducible exact Nat.le_refl _) | (with_reducible assumption) | omega | (simp; omega) | (simp; done)))); have l5 : w2.heap.size ≤ w5.heap.size := (by have := hb5.size; simp at this; omega); obtain ⟨y0, y1, y2, yf, yl⟩ := cells3 (HCW.out w5 (by (repeat' (first | (with_reducible assumption) | (with_reducible exact Below.refl _ _) | (with_reducible refine below_drewN ?_ _) | (with_reducible refine Below.drew ?_) | (with_reducible refine Below.alloc ?_ ?_ _) | (with_reducible refine Below.setCell ?_ ?_ _) | (with_reducible refine Below.trans ?_ (Below.mono (by assumption) ?_)) | (with_reducible exact Nat.le_refl _) | (with_reducible assumption) | omega | (simp; omega) | (simp; done))))); clear hr5 hb5)))
      all_goals
        go_wp2
        refine bodyPost_ret (results_none rfl _ _ _) rfl ?_
        exact ⟨rfl, _, _, HT2.out.found HB5.out (HR5.out.mono (by simp)) HOWN.out HGR.out⟩
theorem sgl_len (m d b j : Nat) : (sgl m d (b + 1) j).length ≤ m ^ b := by
  rw [sgl_is]
  refine Nat.le_trans (List.length_filter_le _ _) ?_
  rw [List.length_map, List.length_range]
  exact Nat.le_refl _
/-- Those of the first elements alone. -/
def sgF (m d b j : Nat) (c : Nat) : List Nat := (List.range c).flatMap fun c => sgl m d (b + 1) (j * m + c)
theorem sgF_succ (m d b j c : Nat) : sgF m d b j (c + 1) = sgF m d b j c ++ sgl m d (b + 1) (j * m + c) := by
  unfold sgF
  rw [List.range_succ, List.flatMap_append]
  simp
theorem sgF_len (m d b j : Nat) : ∀ c, (sgF m d b j c).length ≤ c * m ^ b
  | 0 => by simp [sgF]
  | c + 1 => by
    rw [sgF_succ, List.length_append, Nat.succ_mul]
    have h1 := sgF_len m d b j c
    have h2 := sgl_len m d b (j * m + c)
    omega
set_option maxRecDepth 100000 in
set_option maxHeartbeats 4000000 in
theorem try_one (m d : Nat) (h : isSz (m : Int) = true) (hd : d < m) (h1d : 1 ≤ d) (j W G B : Nat) (vf : Value) (L : List Nat) (X : Nat → Value) (w0 w : World) (hc : L.length + 1 ≤ 1000000) (ht : TN w0 w W G B m d ((j * m + 0) * m ^ 0) vf L X) :
    Calls Try.prog 48 #[.pointer (some ⟨W, 0, none⟩), .slice (some ⟨G, 0, none⟩) (d + 1) (d + 1), .int .i64 1, .bool true] w fun e w' => e = .returned (.tuple #[]) ∧ ∃ vf' X', TN w0 w' W G B m d ((j * m + 0) * m ^ 0) vf' (L ++ sgl m d 1 j) X' := by
  have hq := isSz_le (m : Int) h
  have HTL := Lib.hid (fun w' (ht : TN w0 w' W G B m d ((j * m + 0) * m ^ 0) vf L X) => by
    have := try_leaf m d h hd ((j * m + 0) * m ^ 0) W G B vf L X w0 w' hc ht
    rw [show sgl m d 0 ((j * m + 0) * m ^ 0) = sgl m d 1 j from by rw [Nat.pow_zero, Nat.mul_one, Nat.add_zero]; rfl] at this
    exact this)
  have HPUT := Lib.hid (fun c c' (h1 : c < m) (h2 : c' < m) => pf_put (m := m) (d := d) (b := 0) (j := j) (by omega) (by omega) h1 h2)
  generalize sgl m d 1 j = S at *
  have HT := Lib.hid ht
  obtain ⟨c0, c1, c2, cf, cl⟩ := cells3 ht.tz.ww
  have hm0 : (0 : Int) < (m : Int) := by omega
  have hm1 : (1 : Int) < (m : Int) := by omega
  clear ht h
  go_enter Try.func48, Try.ntmps48
  go_wp2_with fail
  go_loopw [8] (fun vi wr => (vi = .int .i64 0 ∧ TN w0 wr W G B m d ((j * m + 0) * m ^ 0) vf L X) ∨ (vi = .int .i64 1 ∧ ∃ vf' X', TN w0 wr W G B m d ((j * m + 0) * m ^ 0) vf' (L ++ S) X')) (fun vi _ => 2 - (intOf vi).toNat)
  case atStart => exact .inl ⟨rfl, HT.out⟩
  case round =>
    rcases hrel with ⟨rfl, ht⟩ | ⟨rfl, vf', X', ht⟩
    · obtain ⟨a0, a1, a2, af, al⟩ := cells3 ht.tz.ww
      obtain ⟨f0, f1⟩ := ht.tz.cellF (i := 0) (by omega)
      have HTp := Lib.hid (ht.put 0 ((0 : Nat) : Int) (HPUT.out 0 0 (by omega) (by omega)))
      have HTL' := Lib.hid (HTL.out _ HTp.out)
      clear ht
      generalize pf m d ((j * m + 0) * m ^ 0) 0 = x at *
      go_wp2_with fail
      refine HTL'.out.mono ?_
      rintro e w2 ⟨rfl, vf', X', ht2⟩
      have HT2 := Lib.hid ht2
      clear ht2
      go_wp2
      go_roundw
      case rel => exact .inr ⟨by first | rfl | go_num, _, _, HT2.out⟩
      case measure => simp [intOf]
    · obtain ⟨a0, a1, a2, af, al⟩ := cells3 ht.tz.ww
      obtain ⟨f0, f1⟩ := ht.tz.cellF (i := 0) (by omega)
      have hp1 := ht.put 0 ((1 : Nat) : Int) (HPUT.out 0 1 (by omega) (by omega))
      obtain ⟨g0, g1⟩ := hp1.tz.cellF (i := 0) (by omega)
      have HTp := Lib.hid (hp1.put 0 ((0 : Nat) : Int) (HPUT.out 1 0 (by omega) (by omega)))
      clear ht hp1
      generalize pf m d ((j * m + 0) * m ^ 0) 0 = x at *
      generalize pf m d ((j * m + 1) * m ^ 0) 0 = x1 at *
      go_wp2
      go_end0
      exact ⟨rfl, _, _, HTp.out⟩
set_option maxRecDepth 100000 in
set_option maxHeartbeats 4000000 in
/-- spec.peAll.try. -/
theorem try_any (m d : Nat) (h : isSz (m : Int) = true) (hd : d < m) : ∀ (b j W G B : Nat) (vf : Value) (L : List Nat) (X : Nat → Value) (w0 w : World), b + 1 ≤ d → L.length + m ^ b ≤ 1000000 → TN w0 w W G B m d (j * m ^ (b + 1)) vf L X →
    Calls Try.prog 48 #[.pointer (some ⟨W, 0, none⟩), .slice (some ⟨G, 0, none⟩) (d + 1) (d + 1), .int .i64 (b + 1 : Nat), .bool true] w fun e w' => e = .returned (.tuple #[]) ∧ ∃ vf' X', TN w0 w' W G B m d (j * m ^ (b + 1)) vf' (L ++ sgl m d (b + 1) j) X'
  | 0, j, W, G, B, vf, L, X, w0, w, hb, hc, ht => by
    have e : j * m ^ (0 + 1) = (j * m + 0) * m ^ 0 := by rw [Nat.zero_add, Nat.pow_one, Nat.pow_zero, Nat.mul_one, Nat.add_zero (j * m)]
    rw [e] at ht ⊢
    exact try_one m d h hd hb j W G B vf L X w0 w (by simpa using hc) ht
  | b + 1, j, W, G, B, vf, L, X, w0, w, hb, hc, ht => by
    have hq := isSz_le (m : Int) h
    have IH := Lib.hid (fun c vf' L' X' w' h1 h2 => try_any m d h hd b (j * m + c) W G B vf' L' X' w0 w' (by omega) h1 h2)
    have HPUT := Lib.hid (fun c c' (h1 : c < m) (h2 : c' < m) => pf_put (m := m) (d := d) (b := b + 1) (j := j) (by omega) (by omega) h1 h2)
    have hj : j * m ^ (b + 1 + 1) = (j * m + 0) * m ^ (b + 1) := by rw [Nat.pow_succ, Nat.mul_comm (m ^ (b + 1)) m, ← Nat.mul_assoc, Nat.add_zero (j * m)]
    rw [hj] at ht ⊢
    have HSM : Hid (sgl m d (b + 1 + 1) j = sgF m d b j m) := Lib.hid rfl
    rw [HSM.out]
    have HSS : Hid (∀ k, L ++ sgF m d b j (k + 1) = (L ++ sgF m d b j k) ++ sgl m d (b + 1) (j * m + k)) := Lib.hid fun k => by rw [sgF_succ, List.append_assoc]
    have HS0 : Hid (L ++ sgF m d b j 0 = L) := Lib.hid (by simp [sgF])
    have HSB : Hid (∀ k, k < m → (L ++ sgF m d b j k).length + m ^ b ≤ 1000000) := Lib.hid fun k hk => by
      have h1 := sgF_len m d b j k
      have h2 : (k + 1) * m ^ b ≤ m * m ^ b := Nat.mul_le_mul_right _ hk
      rw [Nat.pow_succ, Nat.mul_comm] at hc
      rw [Nat.succ_mul] at h2
      rw [List.length_append]
      omega
    have HT := Lib.hid ht
    obtain ⟨c0, c1, c2, cf, cl⟩ := cells3 ht.tz.ww
    have hbd : b + 1 < d + 1 := by omega
    obtain ⟨e1, he1⟩ : ∃ x, x = b + 1 := ⟨_, rfl⟩
    obtain ⟨e2, he2⟩ : ∃ x, x = e1 + 1 := ⟨_, rfl⟩
    have hz1 : (e2 : Int) - 1 = (e1 : Int) := by omega
    have hz2 : ((e2 : Int) == 1) = false := by simp; omega
    have hz3 : ((e2 : Int) == 0) = false := by simp; omega
    rw [← he1] at IH HPUT HT hbd HSS ⊢
    rw [← he2]
    have HE := Lib.hid (And.intro he1 he2)
    clear he1 he2 ht hj h
    generalize sgF m d b j = SF at *
    generalize hSG : (fun c => sgl m d e1 (j * m + c)) = SG at *
    have HSG : Hid (∀ c, sgl m d e1 (j * m + c) = SG c) := Lib.hid fun c => by rw [← hSG]
    clear hSG
    go_enter Try.func48, Try.ntmps48
    go_wp2_with fail
    go_loopw [8] (fun vi wr => ∃ (c c' : Nat) (vf' : Value) (X' : Nat → Value), c ≤ m ∧ c' < m ∧ vi = .int .i64 c ∧ TN w0 wr W G B m d ((j * m + c') * m ^ e1) vf' (L ++ SF c) X') (fun vi _ => m - (intOf vi).toNat)
    case atStart => exact ⟨0, 0, vf, X, by omega, by omega, rfl, by rw [HS0.out]; exact HT.out⟩
    case round =>
      obtain ⟨c, c', vf', X', hcm, hcm', rfl, ht⟩ := hrel
      obtain ⟨a0, a1, a2, af, al⟩ := cells3 ht.tz.ww
      obtain ⟨f0, f1⟩ := ht.tz.cellF hbd
      have HTr := Lib.hid ht
      clear ht
      by_cases hlt : c < m
      · have HTp := Lib.hid (HTr.out.put e1 (c : Int) (HPUT.out c' c hcm' hlt))
        have IH' := Lib.hid (IH.out c vf' (L ++ SF c) X' _ (HSB.out c hlt) HTp.out)
        generalize pf m d ((j * m + c') * m ^ e1) e1 = x at *
        go_wp2_with fail
        refine IH'.out.mono ?_
        rintro e w2 ⟨rfl, vf2, X2, ht2⟩
        have HT2 := Lib.hid ht2
        clear ht2
        go_wp2
        go_roundw
        case rel => exact ⟨c + 1, c, vf2, X2, by omega, hlt, by go_num, by rw [HSS.out]; exact HT2.out⟩
        case measure => simp [intOf]; omega
      · obtain rfl : m = c := by omega
        have HTp := Lib.hid (HTr.out.put e1 ((0 : Nat) : Int) (HPUT.out c' 0 hcm' (by omega)))
        generalize pf m d ((j * m + c') * m ^ e1) e1 = x at *
        go_wp2
        go_end0
        exact ⟨rfl, _, _, HTp.out⟩
end Go.Proofs.Ytnmdcmbcackchab
