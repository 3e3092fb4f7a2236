/- Several texts in one (tools/upbundle.py): ZP ZO ZQ LV RM RQ DQ ZR. -/
import Derived.Test.YtapglncgicfjnabGreatZJ
import Derived.Test.YtapglncgicfjnabGreatZVA
import Derived.Test.YtapglncgicfjnabGreatZVB
import Derived.Test.YtapglncgicfjnabGreatPA
import Derived.Test.YtapglncgicfjnabGreatLJ
import Derived.Test.YtapglncgicfjnabGreatDP
import Derived.Test.YtapglncgicfjnabGreatNI
import Derived.Test.YtapglncgicfjnabGreatLD
import Derived.Deep.RegionHeld3
import Derived.Test.YtapglncgicfjnabGreatKR
import Derived.Deep.DeepCutAuto
/-! ZP -/
namespace Go.Proofs.YtapglncgicfjnabGreat
open Go.RowKit
theorem tb_withZ {m : Nat} {t : Nat → Int} (h : isSz (m : Int) = true) (ht : ∀ i, El (m : Int) (t i)) : Tb m (redR m (tms m t) m) (redn m (tms m t) m) t :=
  (tb_red h (tms_el h ht) m).like fun a ha => by
    rw [← ipl_tab h ht a ha]
    exact lsum_congr' fun j _ => by rw [tms_same h ht]
theorem ftl_ptlZ {m : Nat} {t : Nat → Int} (h : isSz (m : Int) = true) (ht : ∀ i, i < m → El (m : Int) (t i)) : ftl m t = ptl m t := by
  have hc := clm_el h ht
  rw [← ((tb_withZ h hc).like fun a ha => show clm m t a = t a by simp [clm, ha]).same h, from_same' h hc]
  rfl
theorem sorted_same : ∀ (a b : List Int), a.Pairwise (· < ·) → b.Pairwise (· < ·) → (∀ x, x ∈ a ↔ x ∈ b) → a = b
  | [], b, _, _, h => by
    cases b with
    | nil => rfl
    | cons y b => exact absurd ((h y).2 (List.mem_cons_self ..)) (by simp)
  | x :: a, b, ha, hb, h => by
    cases b with
    | nil => exact absurd ((h x).1 (List.mem_cons_self ..)) (by simp)
    | cons y b =>
      rw [List.pairwise_cons] at ha hb
      have hxy : x = y := by
        rcases List.mem_cons.1 ((h x).1 (List.mem_cons_self ..)) with e | e
        · exact e
        · rcases List.mem_cons.1 ((h y).2 (List.mem_cons_self ..)) with e' | e'
          · exact e'.symm
          · have h1 := hb.1 x e
            have h2 := ha.1 y e'
            omega
      subst hxy
      congr 1
      refine sorted_same a b ha.2 hb.2 fun z => ⟨fun hz => ?_, fun hz => ?_⟩
      · rcases List.mem_cons.1 ((h z).1 (List.mem_cons_of_mem _ hz)) with e | e
        · have := ha.1 z hz; omega
        · exact e
      · rcases List.mem_cons.1 ((h z).2 (List.mem_cons_of_mem _ hz)) with e | e
        · have := hb.1 z hz; omega
        · exact e
theorem wh_sorted (P : Nat → Bool) (n : Nat) : (wh P n).Pairwise (· < ·) := by
  unfold wh
  rw [List.pairwise_map]
  exact (List.pairwise_lt_range.filter _).imp fun h => by omega
theorem mem_whZ {P : Nat → Bool} {n : Nat} {x : Int} : x ∈ wh P n ↔ ∃ y : Nat, y < n ∧ P y = true ∧ x = (y : Int) := by
  unfold wh
  simp only [List.mem_map, List.mem_filter, List.mem_range]
  constructor
  · rintro ⟨y, ⟨h1, h2⟩, rfl⟩; exact ⟨y, h1, h2, rfl⟩
  · rintro ⟨y, h1, h2, rfl⟩; exact ⟨y, ⟨h1, h2⟩, rfl⟩
theorem rsn_sorted {q : Int} {l : List Int} (h : rsn q l = true) : l.Pairwise (· < ·) := by
  simp only [rsn, Bool.and_eq_true] at h
  have hs : ∀ i, i + 1 < l.length → l.getD i 0 < l.getD (i + 1) 0 := fun i hi => by
    have := List.all_eq_true.1 h.2 (i + 1) (List.mem_range.2 hi)
    simpa using this
  have hlt : ∀ j i, i < j → j < l.length → l.getD i 0 < l.getD j 0 := by
    intro j
    induction j with
    | zero => intro i hi; omega
    | succ j ih =>
      intro i hi hj
      have h1 := hs j hj
      rcases Nat.lt_or_ge i j with h2 | h2
      · have := ih i h2 (by omega); omega
      · obtain rfl : i = j := by omega
        exact h1
  rw [List.pairwise_iff_getElem]
  intro i j hi hj hij
  have := hlt j i hij hj
  simpa [List.getD, hi, hj] using this
theorem rsn_el {m : Nat} {l : List Int} (h : rsn (m : Int) l = true) {x : Int} (hx : x ∈ l) : El (m : Int) x := by
  simp only [rsn, Bool.and_eq_true] at h
  have := List.all_eq_true.1 h.1 x hx
  simpa [inF, El] using this
/-- The values of the polynomial that was made are the given ones. -/
theorem made_same {m : Nat} {l : List Int} (hr : rsn (m : Int) l = true) (h0 : 0 < l.length) : wh (mt (wt l) m) m = l := by
  have hlen : l.length ≤ m := by have := rsn_len hr; omega
  refine sorted_same _ _ (wh_sorted _ _) (rsn_sorted hr) fun x => ?_
  rw [mem_whZ]
  constructor
  · rintro ⟨y, hy, hm, rfl⟩
    obtain ⟨i, hi, e⟩ := (mt_iff fun i _ => (wt_el hr h0 i).1).1 hm
    rw [← e]
    unfold wt
    have hb : min i (l.length - 1) < l.length := by omega
    rw [show l.getD (min i (l.length - 1)) 0 = l[min i (l.length - 1)] by simp [List.getD, hb]]
    exact List.getElem_mem _
  · intro hx
    obtain ⟨i, hi, e⟩ := List.getElem_of_mem hx
    have ex := rsn_el hr hx
    obtain ⟨y, rfl⟩ := Int.eq_ofNat_of_zero_le ex.1
    refine ⟨y, by have := ex.2; omega, (mt_iff fun i _ => (wt_el hr h0 i).1).2 ⟨i, by omega, ?_⟩, rfl⟩
    unfold wt
    rw [show min i (l.length - 1) = i by omega, ← e]
    simp [List.getD, hi]
theorem one_filter (c : Int) : ∀ m : Nat, ((List.range m).filter fun y : Nat => decide (c = (y : Int))).length ≤ 1
  | 0 => by simp
  | m + 1 => by
    have ih := one_filter c m
    rw [List.range_succ, List.filter_append, List.length_append]
    by_cases hm : c = (m : Int)
    · have : ((List.range m).filter fun y : Nat => decide (c = (y : Int))) = [] := by
        rw [List.filter_eq_nil_iff]
        intro y hy
        have := List.mem_range.1 hy
        simp; omega
      rw [this]; simp [hm]
    · simp [hm]
      simpa using ih
theorem few_wh {t : Nat → Int} {m : Nat} : ∀ n, (∀ i, i < n → 0 ≤ t i) → (wh (mt t n) m).length ≤ n
  | 0, _ => by
    have : wh (mt t 0) m = [] := by
      rw [List.eq_nil_iff_forall_not_mem]
      intro x hx
      obtain ⟨y, _, h, _⟩ := mem_whZ.1 hx
      obtain ⟨i, hi, _⟩ := (mt_iff (n := 0) (by omega)).1 h
      omega
    rw [this]; simp
  | n + 1, ht => by
    have ih := few_wh (t := t) (m := m) n fun i hi => ht i (by omega)
    have e : ∀ y, mt t (n + 1) y = (mt t n y || decide (t n = (y : Int))) := fun y => by
      rw [Bool.eq_iff_iff, Bool.or_eq_true, mt_iff ht, mt_iff fun i hi => ht i (by omega), decide_eq_true_eq]
      constructor
      · rintro ⟨i, hi, h⟩
        rcases Nat.lt_succ_iff_lt_or_eq.1 hi with h1 | rfl
        · exact .inl ⟨i, h1, h⟩
        · exact .inr h
      · rintro (⟨i, hi, h⟩ | h)
        · exact ⟨i, by omega, h⟩
        · exact ⟨n, by omega, h⟩
    have h1 : ((List.range m).filter fun y : Nat => mt t n y || decide (t n = (y : Int))).length ≤ ((List.range m).filter (mt t n)).length + ((List.range m).filter fun y : Nat => decide (t n = (y : Int))).length := by
      rw [← List.countP_eq_length_filter, ← List.countP_eq_length_filter, ← List.countP_eq_length_filter]
      generalize List.range m = r
      induction r with
      | nil => simp
      | cons y r ih =>
        simp only [List.countP_cons]
        cases mt t n y <;> cases decide (t n = (y : Int)) <;> simp <;> omega
    have h2 := one_filter (t n) m
    unfold wh at ih ⊢
    rw [List.length_map] at ih ⊢
    rw [show (List.range m).filter (mt t (n + 1)) = (List.range m).filter fun y : Nat => mt t n y || decide (t n = (y : Int)) from List.filter_congr fun y _ => e y]
    omega
/-- What the law asks of WithValues. -/
theorem ask_With (q : Int) (l : List Int) (hl : l.length ≤ 1048576) : ∃ (F : List Int) (o : Bool), F.length ≤ 1048576 ∧
    (∀ w v, Sl w v l → Calls Tryz.prog 9 #[.int .i64 q, v] w fun e w' => ∃ v', e = .returned (.tuple #[v', .bool o]) ∧ Row w' w.heap.size v' F ∧ Below w.heap.size w w') ∧
    (∀ w v, Sl w v l → Calls Tryz.prog 10 #[.int .i64 q, v] w fun e w' => ∃ v', e = .returned (.tuple #[v', .bool o]) ∧ Row w' w.heap.size v' F ∧ Below w.heap.size w w') ∧
    (o = true → ∀ w v, Sl w v F → Calls Tryz.prog 12 #[.int .i64 q, v] w fun e w' => ∃ v', e = .returned (.tuple #[v', .bool true]) ∧ Row w' w.heap.size v' l ∧ Below w.heap.size w w') := by
  cases h : wvOK q l with
  | false => exact ⟨[], false, by simp, fun w v hv => (impl_WithValues_no q v l w hv hl h).mono fun _ _ ⟨he, hb⟩ => ⟨_, he, Row.nil _ _, hb⟩, fun w v hv => (spec_WithValues_no q v l w hv hl h).mono fun _ _ ⟨he, hb⟩ => ⟨_, he, Row.nil _ _, hb⟩, fun e => by cases e⟩
  | true =>
    have h' := h
    simp only [wvOK, Bool.and_eq_true, Bool.not_eq_true', decide_eq_false_iff_not] at h'
    obtain ⟨⟨hs, hr⟩, h0⟩ := h'
    have hq := isSz_le q hs
    obtain ⟨m, rfl⟩ := Int.eq_ofNat_of_zero_le (show 0 ≤ q by omega)
    have h0' : 0 < l.length := by omega
    have ht : ∀ i, i < m → El (m : Int) (wt l i) := fun i _ => wt_el hr h0' i
    have hfl := ftl_len m (wt l)
    refine ⟨ftl m (wt l), true, by omega, fun w v hv => impl_WithValues_yes m v l w hv hs hr h0', fun w v hv => spec_WithValues_yes m v l w hv hs hr h0', fun _ w v hv => ?_⟩
    rw [ftl_ptlZ hs ht] at hv
    have := impl_ValuesOf_yes m v _ w hs hv (ptl_goodZ hs ht)
    have e : mt (tabl' m (ptl m (wt l))) m = mt (wt l) m := by
      funext y
      rw [Bool.eq_iff_iff, mt_iff fun i hi => by rw [show tabl' m (ptl m (wt l)) i = wt l i from tabF_ptl hs ht i hi]; exact (ht i hi).1, mt_iff fun i hi => (ht i hi).1]
      constructor
      · rintro ⟨i, hi, e⟩; exact ⟨i, hi, (tabF_ptl hs ht i hi).symm.trans e⟩
      · rintro ⟨i, hi, e⟩; exact ⟨i, hi, (tabF_ptl hs ht i hi).trans e⟩
    rw [e, made_same hr h0'] at this
    exact this
/-- What the law asks of ValuesOfSet. -/
theorem ask_Set (q : Int) (l s : List Int) (hl : l.length ≤ 1048576) (hs : s.length ≤ 1048576) : ∃ (P : List Int) (o : Bool), P.length ≤ 1048576 ∧
    (∀ w v u, Sl w v l → Sl w u s → Calls Tryz.prog 14 #[.int .i64 q, v, u] w fun e w' => ∃ v', e = .returned (.tuple #[v', .bool o]) ∧ Row w' w.heap.size v' P ∧ Below w.heap.size w w') ∧
    (∀ w v u, Sl w v l → Sl w u s → Calls Tryz.prog 15 #[.int .i64 q, v, u] w fun e w' => ∃ v', e = .returned (.tuple #[v', .bool o]) ∧ Row w' w.heap.size v' P ∧ Below w.heap.size w w') ∧
    (o = true → P.length ≤ s.length ∧ ∃ A : List Int, A.length ≤ 1048576 ∧ (∀ i, i < P.length → decide (P.getD i 0 ∈ A) = true) ∧
      ∀ w v, Sl w v l → Calls Tryz.prog 12 #[.int .i64 q, v] w fun e w' => ∃ v', e = .returned (.tuple #[v', .bool true]) ∧ Row w' w.heap.size v' A ∧ Below w.heap.size w w') := by
  cases h : (isSz q && good q l) && rsn q s with
  | false => exact ⟨[], false, by simp, fun w v u hv hu => (impl_ValuesOfSet_no q v u l s w hv hl hu hs h).mono fun _ _ ⟨he, hb⟩ => ⟨_, he, Row.nil _ _, hb⟩, fun w v u hv hu => (spec_ValuesOfSet_no q v u l s w hv hl hu hs h).mono fun _ _ ⟨he, hb⟩ => ⟨_, he, Row.nil _ _, hb⟩, fun e => by cases e⟩
  | true =>
    have h' := h
    simp only [Bool.and_eq_true] at h'
    obtain ⟨⟨hz, hg⟩, hr⟩ := h'
    have hq := isSz_le q hz
    obtain ⟨m, rfl⟩ := Int.eq_ofNat_of_zero_le (show 0 ≤ q by omega)
    have hsv : ∀ i, i < s.length → El (m : Int) (svs m l s i) := fun i hi => svs_el hz hg hr i hi
    have htl : ∀ i, i < m → El (m : Int) (tabl' m l i) := fun i hi => tabl_el hz hg i hi
    have f1 := few_wh (t := svs m l s) (m := m) s.length fun i hi => (hsv i hi).1
    have f2 := wh_len (mt (tabl' m l) m) m
    refine ⟨wh (mt (svs m l s) s.length) m, true, by omega, fun w v u hv hu => impl_ValuesOfSet_yes m v u l s w hv hu hz hg hr, fun w v u hv hu => spec_ValuesOfSet_yes m v u l s w hv hu hz hg hr, fun _ => ⟨f1, wh (mt (tabl' m l) m) m, by omega, fun i hi => decide_eq_true ?_, fun w v hv => impl_ValuesOf_yes m v l w hz hv hg⟩⟩
    have hm : (wh (mt (svs m l s) s.length) m).getD i 0 ∈ wh (mt (svs m l s) s.length) m := by
      rw [show (wh (mt (svs m l s) s.length) m).getD i 0 = (wh (mt (svs m l s) s.length) m)[i] by simp [List.getD, hi]]
      exact List.getElem_mem _
    obtain ⟨y, hy, h1, h2⟩ := mem_whZ.1 hm
    rw [h2]
    refine mem_whZ.2 ⟨y, hy, ?_, rfl⟩
    obtain ⟨j, hj, e⟩ := (mt_iff fun i hi => (hsv i hi).1).1 h1
    have es := set_el hr j hj
    refine (mt_iff fun i hi => (htl i hi).1).2 ⟨(s.getD j 0).toNat, by have := es.1; have := es.2; omega, ?_⟩
    rw [← e]
    show hor (m : Int) ((s.getD j 0).toNat : Int) _ _ _ = hor (m : Int) (s.getD j 0) _ _ _
    rw [Int.toNat_of_nonneg es.1]
/-- What the law asks of LeastValues and MostValues. -/
theorem ask_Bounds (q d : Int) : ∃ (a b : Int) (o : Bool),
    (∀ w, Calls Tryz.prog 18 #[.int .i64 q, .int .i64 d] w fun e w' => e = .returned (.tuple #[.int .i64 a, .bool o]) ∧ Below w.heap.size w w') ∧
    (∀ w, Calls Tryz.prog 19 #[.int .i64 q, .int .i64 d] w fun e w' => e = .returned (.tuple #[.int .i64 a, .bool o]) ∧ Below w.heap.size w w') ∧
    (∀ w, Calls Tryz.prog 20 #[.int .i64 q, .int .i64 d] w fun e w' => e = .returned (.tuple #[.int .i64 b, .bool o]) ∧ Below w.heap.size w w') ∧
    (∀ w, Calls Tryz.prog 21 #[.int .i64 q, .int .i64 d] w fun e w' => e = .returned (.tuple #[.int .i64 b, .bool o]) ∧ Below w.heap.size w w') := by
  cases h : dOK q d 1 with
  | false => exact ⟨0, 0, false, fun w => impl_LeastValues_no q d w h, fun w => spec_LeastValues_no q d w h, fun w => impl_MostValues_no q d w h, fun w => spec_MostValues_no q d w h⟩
  | true =>
    obtain ⟨m, D, rfl, rfl, hs, h1, h2⟩ := dOK_nat h
    exact ⟨_, _, true, fun w => impl_LeastValues_yes m D w hs h1 h2, fun w => spec_LeastValues_yes m D w hs h1 h2, fun w => impl_MostValues_yes m D w hs h1 h2, fun w => spec_MostValues_yes m D w hs h1 h2⟩
end Go.Proofs.YtapglncgicfjnabGreat
/-! ZO -/
namespace Go.Proofs.YtapglncgicfjnabGreat
open Go.RowKit
set_option maxRecDepth 100000 in
set_option maxHeartbeats 8000000 in
/-- spec.l1Cur.polyOf. -/
theorem polyOf_any (cb : Nat) (a : Option Addr) (n c k : Nat) (w : World) (h : Cu w cb a n c k) (hk : k ≤ 400) :
    Calls Tryz.prog 79 #[.pointer (some ⟨cb, 0, none⟩)] w fun e w' => ∃ (q : Int) (v : Value) (l : List Int), e = .returned (.tuple #[.int .i64 q, v]) ∧ l.length ≤ 48 ∧ Row w' w.heap.size v l ∧ Cu w' cb a n c (k + 90) ∧ Kp cb w w' := by
  have HCL := Lib.hid h.lt
  have HS := Lib.hid (size_any cb a n c k w h (by omega))
  have HSZ := Lib.hid (fun q w => fdSize_any q w)
  have HPO := Lib.hid (fun k q w' (hc : Cu w' cb a n c k) (hk : k ≤ 450) => poly_any cb a n c k q w' hc (by omega))
  have HO := Lib.hid (fun k m w' (hc : Cu w' cb a n c k) (hk : k ≤ 800) => one_any cb a n c k m w' hc (by omega))
  have HP := Lib.hid (fun k z w' (hc : Cu w' cb a n c k) (hk : k ≤ 800) => pick_any cb a n c k z w' hc (by omega))
  have HKD := Lib.hid (fun (m n : Nat) w (h : isSz (m : Int) = true) (hn : n ≤ 900) => kdPower_any m n w h hn)
  clear h
  go_enter Tryz.func79, Tryz.ntmps79
  go_wp2_with fail
  refine (HS.out).mono ?_
  rintro e w1 ⟨q, rfl, hc1, hk1⟩
  have HC1 := Lib.hid hc1
  have HK1 := Lib.hid hk1
  clear hc1 hk1
  go_wp2_with fail
  refine (HSZ.out q _).mono ?_
  rintro e w2 ⟨rfl, hb2⟩
  have HC2 := Lib.hid (HC1.out.kp hb2)
  have HK2 := Lib.hid (HK1.out.trans (Kp.below hb2 (Nat.le_of_lt HC1.out.lt)))
  have hsz2 := HK2.out.1.size
  clear hb2
  cases hs : isSz q with
  | false =>
    go_wp2_with fail
    refine (HPO.out _ q _ HC2.out (by omega)).mono ?_
    rintro e w3 ⟨v, l, rfl, hl, hr, hc3, hk3⟩
    have HR := Lib.hid hr; clear hr
    have HC3 := Lib.hid hc3; clear hc3
    have HK3 := Lib.hid (HK2.out.trans hk3); clear hk3
    go_wp2
    go_ret2
    exact ⟨q, v, l, rfl, by omega, HR.out.mono hsz2, HC3.out.mono (by omega), HK3.out⟩
  | true =>
    go_wp2_with fail
    refine (HO.out _ 3 _ HC2.out (by omega)).mono ?_
    rintro e w3 ⟨b, rfl, hc3, hk3⟩
    have HC3 := Lib.hid hc3; clear hc3
    have HK3 := Lib.hid (HK2.out.trans hk3); clear hk3
    have hsz3 := HK3.out.1.size
    cases b with
    | false =>
      go_wp2_with fail
      refine (HPO.out _ q _ HC3.out (by omega)).mono ?_
      rintro e w4 ⟨v, l, rfl, hl, hr, hc4, hk4⟩
      have HR := Lib.hid hr; clear hr
      have HC4 := Lib.hid hc4; clear hc4
      have HK4 := Lib.hid (HK3.out.trans hk4); clear hk4
      go_wp2
      go_ret2
      exact ⟨q, v, l, rfl, by omega, HR.out.mono hsz3, HC4.out.mono (by omega), HK4.out⟩
    | true =>
      have hq := isSz_le q hs
      obtain ⟨m, rfl⟩ := Int.eq_ofNat_of_zero_le (show 0 ≤ q by omega)
      go_wp2_with fail
      refine (HP.out _ _ _ HC3.out (by omega)).mono ?_
      rintro e w4 ⟨z, rfl, _, hz, hc4, hk4⟩
      obtain ⟨z0, z1⟩ := hz (by omega)
      obtain ⟨z, rfl⟩ := Int.eq_ofNat_of_zero_le z0
      have HC4 := Lib.hid hc4; clear hc4
      have HK4 := Lib.hid (HK3.out.trans hk4); clear hk4 hz
      have hsz4 := HK4.out.1.size
      have HKDZ := Lib.hid (fun w => HKD.out m z w hs (by omega))
      clear HKD hs
      go_wp2_with fail
      refine (HKDZ.out _).mono ?_
      rintro e w5 ⟨v, rfl, hr, hb5⟩
      obtain ⟨f, N, hr, htb⟩ := hr
      have hN : (fl f N).length ≤ 16 := by rw [fl_len]; have := htb.le; omega
      have HR := Lib.hid hr; clear hr
      have HC5 := Lib.hid (HC4.out.kp hb5)
      have HK5 := Lib.hid (HK4.out.trans (Kp.below hb5 (Nat.le_of_lt HC4.out.lt)))
      clear hb5 htb
      go_wp2
      go_ret2
      exact ⟨_, v, _, rfl, by omega, HR.out.mono hsz4, HC5.out.mono (by omega), HK5.out⟩
set_option maxRecDepth 100000 in
set_option maxHeartbeats 8000000 in
/-- spec.l1Cur.risen. -/
theorem risen_any (cb : Nat) (a : Option Addr) (n c k : Nat) (q : Int) (w : World) (h : Cu w cb a n c k) (hk : k ≤ 600) :
    Calls Tryz.prog 66 #[.pointer (some ⟨cb, 0, none⟩), .int .i64 q] w fun e w' => ∃ (v : Value) (l : List Int), e = .returned v ∧ l.length ≤ 48 ∧ Row w' w.heap.size v l ∧ Cu w' cb a n c (k + 60) ∧ Kp cb w w' := by
  obtain ⟨i0, hi, hz0, hz1, hz2⟩ := info_parts Tryz.infoI
  have HCL := Lib.hid h.lt
  have HCU := Lib.hid h
  have HO := Lib.hid (fun k m w' (hc : Cu w' cb a n c k) (hk : k ≤ 800) => one_any cb a n c k m w' hc (by omega))
  have HA := Lib.hid (fun k (l : List Int) w' (hc : Cu w' cb a n c k) (hk : k ≤ 800) (hl : l.length = 4) o ho => among_new cb a n c k 4 l w' hc (by omega) hl (by omega) (by omega) o ho)
  have HLE := Lib.hid (fun a b w => l1Least_any a b w)
  have hmin : min q 16 ≤ 16 := Int.min_le_right _ _
  clear h
  go_enter Tryz.func66, Tryz.ntmps66
  go_wp2_with fail
  go_loopw [5, 6] (fun vf vx wr => ∃ (x : Nat) (l : List Int), x ≤ 16 ∧ l.length ≤ x ∧ Row wr w.heap.size vf l ∧ vx = .int .i64 x ∧ Cu wr cb a n c (k + 2 * x) ∧ Kp cb w wr) (fun _ vx _ => 17 - (intOf vx).toNat)
  case atStart => exact ⟨0, [], by omega, Nat.zero_le _, Row.nil _ _, rfl, HCU.out, Kp.refl _ _⟩
  case round =>
    obtain ⟨x, l, hx, hl, hrow, rfl, hcu, hkp⟩ := hrel
    obtain ⟨af, cf, rfl⟩ := hrow.sl.form
    have HR := Lib.hid hrow; clear hrow
    have HCu := Lib.hid hcu; clear hcu
    have HKp := Lib.hid hkp; clear hkp
    have hszr : w.heap.size ≤ wr.heap.size := HKp.out.1.size
    go_wp2_with fail
    refine (HLE.out q 16 _).mono ?_
    rintro e _ ⟨rfl, rfl⟩
    by_cases h1 : (x : Int) < min q 16
    · go_wp2_with fail
      refine (HO.out _ 2 _ HCu.out (by omega)).mono ?_
      rintro e w2 ⟨b, rfl, hc2, hk2⟩
      have HR2 := Lib.hid (HR.out.kp hk2 HCL.out)
      have HC2 := Lib.hid hc2
      have HK2 := Lib.hid (HKp.out.trans hk2)
      clear hc2 hk2
      have hsz2 : w.heap.size ≤ w2.heap.size := HK2.out.1.size
      cases b with
      | false =>
        go_wp2
        go_roundw
        case rel => exact ⟨x + 1, l, by omega, by omega, HR2.out, by go_num, HC2.out.mono (by omega), HK2.out⟩
        case measure => simp [intOf]; omega
      | true =>
        have hlm : l.length + 1 ≤ maxLen := by unfold maxLen; omega
        go_wp2_with (at_builtin; refine wpList_append_own _ rfl _ _ 24 rfl w.heap.size 3 i0 (.int .i64 0) 1 8 Tryz.underlying24 hi hz0 hz1 hz2 rfl (by decide) _ _ _ rfl (World.ownsRow.alloc HR2.out _) ⟨w2.heap.size, 0, none⟩ 1 1 [.int .i64 (x : Int)] rfl rfl ?c1 ?c2 ?c3 ?c4 ?c5 ?_)
        case c1 => exact cell_one_new _ _ _
        case c2 => intro u hu; simp at hu; subst hu; rfl
        case c3 => exact hlm
        case c4 => omega
        case c5 => simp; omega
        intro v' w3 hown hgrow _
        have HR3 := Lib.hid (Row.appended hown)
        have HB3 : Hid (Below w.heap.size w2 w3) := Lib.hid (((Below.refl _ _).alloc hsz2 (.cells #[.int .i64 (x : Int)] 3)).grown hgrow (by simp; omega) (fun g hg => (HR2.out.lt g hg).1))
        have HC3 := Lib.hid (Cu.own HCU.out HC2.out HB3.out)
        have HK3 := Lib.hid (HK2.out.own (Nat.le_of_lt HCL.out) rfl HB3.out)
        clear hown hgrow
        go_wp2
        go_roundw
        case rel => exact ⟨x + 1, l ++ [(x : Int)], by omega, by rw [List.length_append]; simp; omega, HR3.out, by go_num, HC3.out.mono (by omega), HK3.out⟩
        case measure => simp [intOf]; omega
    · go_wp2_with fail
      refine (HO.out _ 12 _ HCu.out (by omega)).mono ?_
      rintro e w2 ⟨b, rfl, hc2, hk2⟩
      have HR2 := Lib.hid (HR.out.kp hk2 HCL.out)
      have HC2 := Lib.hid hc2
      have HK2 := Lib.hid (HKp.out.trans hk2)
      clear hc2 hk2
      cases b with
      | false =>
        go_wp2
        go_ret
        exact ⟨_, l, rfl, by omega, HR2.out, HC2.out.mono (by omega), HK2.out⟩
      | true =>
        go_wp2_with fail
        refine (HA.out _ [-1, 0, q, 4611686018427387904] _ HC2.out (by omega) rfl _ rfl).mono ?_
        rintro e w4 ⟨y, rfl, hc4, hk4⟩
        have HR4 := Lib.hid (HR2.out.kp hk4 HCL.out)
        have HC4 := Lib.hid hc4
        have HK4 := Lib.hid (HK2.out.trans hk4)
        have hsz4 : w.heap.size ≤ w4.heap.size := HK4.out.1.size
        clear hc4 hk4
        have hlm : l.length + 1 ≤ maxLen := by unfold maxLen; omega
        go_wp2_with (at_builtin; refine wpList_append_own _ rfl _ _ 24 rfl w.heap.size 3 i0 (.int .i64 0) 1 8 Tryz.underlying24 hi hz0 hz1 hz2 rfl (by decide) _ _ _ rfl (World.ownsRow.alloc HR4.out _) ⟨w4.heap.size, 0, none⟩ 1 1 [.int .i64 y] rfl rfl ?d1 ?d2 ?d3 ?d4 ?d5 ?_)
        case d1 => exact cell_one_new _ _ _
        case d2 => intro u hu; simp at hu; subst hu; rfl
        case d3 => exact hlm
        case d4 => omega
        case d5 => simp; omega
        intro v' w5 hown hgrow _
        have HR5 := Lib.hid (Row.appended hown)
        have HB5 : Hid (Below w.heap.size w4 w5) := Lib.hid (((Below.refl _ _).alloc hsz4 (.cells #[.int .i64 y] 3)).grown hgrow (by simp; omega) (fun g hg => (HR4.out.lt g hg).1))
        have HC5 := Lib.hid (Cu.own HCU.out HC4.out HB5.out)
        have HK5 := Lib.hid (HK4.out.own (Nat.le_of_lt HCL.out) rfl HB5.out)
        clear hown hgrow
        go_wp2
        go_ret
        exact ⟨_, l ++ [y], rfl, by rw [List.length_append]; simp; omega, HR5.out, HC5.out.mono (by omega), HK5.out⟩
end Go.Proofs.YtapglncgicfjnabGreat
/-! ZQ -/
namespace Go.Proofs.YtapglncgicfjnabGreat
open Go.RowKit
set_option maxHeartbeats 2000000 in
/-- spec.DrawWithValues. -/
theorem drawWithValues_any (a : Option Addr) (n c : Nat) (w : World) (h : Bys w a n) :
    Calls Tryz.prog 8 #[.slice a n c] w fun e w' => ∃ (q : Int) (v_f : Value) (l_f : List Int), e = .returned (.tuple #[.int .i64 q, v_f]) ∧ l_f.length ≤ 48 ∧ Row w' w.heap.size v_f l_f ∧ Below w.heap.size w w' := by
  have H_risen := Lib.hid (fun k q w' (hc : Cu w' w.heap.size a n c k) (hk : k ≤ 500) => risen_any w.heap.size a n c k q w' hc (by omega))
  have H_size := Lib.hid (fun k w' (hc : Cu w' w.heap.size a n c k) (hk : k ≤ 800) => size_any w.heap.size a n c k w' hc (by omega))
  have HC0 := Lib.hid (h.cur c)
  have HK0 := Lib.hid (Kp.refl w.heap.size (w.alloc (.cells #[.slice a n c, .int .i64 0, .int .u64 0] 57)))
  have HCL : Hid (w.heap.size < (w.alloc (.cells #[.slice a n c, .int .i64 0, .int .u64 0] 57)).heap.size) := Lib.hid (h.cur c).lt
  clear h
  go_enter Tryz.func8, Tryz.ntmps8
  go_wp2_with fail
  refine (H_size.out _ _ HC0.out (by omega)).mono ?_
  rintro e w1 ⟨q, rfl, hc, hk⟩
  have HC1 := Lib.hid hc
  have HK1 := Lib.hid (HK0.out.trans hk)
  clear hc hk HC0 HK0
  go_wp2_with fail
  refine (H_risen.out _ q _ HC1.out (by omega)).mono ?_
  rintro e w2 ⟨v_f, l_f, rfl, hl_f, hr, hc, hk⟩
  have HR_f := Lib.hid hr; clear hr
  have hsz_f : w.heap.size < w1.heap.size := by have := HK1.out.1.size; have := HCL.out; omega
  have HC2 := Lib.hid hc
  have HK2 := Lib.hid (HK1.out.trans hk)
  clear hc hk HC1 HK1
  have hst := HK2.out.start
  have hsz := hst.size
  clear HC2
  go_wp2
  go_ret2
  exact ⟨q, v_f, l_f, rfl, by omega, HR_f.out.mono (Nat.le_of_lt hsz_f), hst⟩
set_option maxHeartbeats 2000000 in
/-- spec.DrawValuesOfSet. -/
theorem drawValuesOfSet_any (a : Option Addr) (n c : Nat) (w : World) (h : Bys w a n) :
    Calls Tryz.prog 13 #[.slice a n c] w fun e w' => ∃ (q : Int) (v_f : Value) (l_f : List Int) (v_s : Value) (l_s : List Int), e = .returned (.tuple #[.int .i64 q, v_f, v_s]) ∧ l_f.length ≤ 48 ∧ Row w' w.heap.size v_f l_f ∧ l_s.length ≤ 48 ∧ Row w' w.heap.size v_s l_s ∧ Below w.heap.size w w' := by
  have H_polyOf := Lib.hid (fun k w' (hc : Cu w' w.heap.size a n c k) (hk : k ≤ 400) => polyOf_any w.heap.size a n c k w' hc (by omega))
  have H_risen := Lib.hid (fun k q w' (hc : Cu w' w.heap.size a n c k) (hk : k ≤ 500) => risen_any w.heap.size a n c k q w' hc (by omega))
  have HC0 := Lib.hid (h.cur c)
  have HK0 := Lib.hid (Kp.refl w.heap.size (w.alloc (.cells #[.slice a n c, .int .i64 0, .int .u64 0] 57)))
  have HCL : Hid (w.heap.size < (w.alloc (.cells #[.slice a n c, .int .i64 0, .int .u64 0] 57)).heap.size) := Lib.hid (h.cur c).lt
  clear h
  go_enter Tryz.func13, Tryz.ntmps13
  go_wp2_with fail
  refine (H_polyOf.out _ _ HC0.out (by omega)).mono ?_
  rintro e w1 ⟨q, v_f, l_f, rfl, hl_f, hr, hc, hk⟩
  have HR_f := Lib.hid hr; clear hr
  have hsz_f := HCL.out
  have HC1 := Lib.hid hc
  have HK1 := Lib.hid (HK0.out.trans hk)
  clear hc hk HC0 HK0
  go_wp2_with fail
  refine (H_risen.out _ q _ HC1.out (by omega)).mono ?_
  rintro e w2 ⟨v_s, l_s, rfl, hl_s, hr, hc, hk⟩
  have HS_f := HR_f.out.kp hk hsz_f
  clear HR_f
  have HR_f := Lib.hid HS_f; clear HS_f
  have HR_s := Lib.hid hr; clear hr
  have hsz_s : w.heap.size < w1.heap.size := by have := HK1.out.1.size; have := HCL.out; omega
  have HC2 := Lib.hid hc
  have HK2 := Lib.hid (HK1.out.trans hk)
  clear hc hk HC1 HK1
  have hst := HK2.out.start
  have hsz := hst.size
  clear HC2
  go_wp2
  go_ret3
  exact ⟨q, v_f, l_f, v_s, l_s, rfl, by omega, HR_f.out.mono (Nat.le_of_lt hsz_f), by omega, HR_s.out.mono (Nat.le_of_lt hsz_s), hst⟩
set_option maxHeartbeats 2000000 in
/-- spec.DrawLeastValues. -/
theorem drawLeastValues_any (a : Option Addr) (n c : Nat) (w : World) (h : Bys w a n) :
    Calls Tryz.prog 17 #[.slice a n c] w fun e w' => ∃ (q : Int) (x : Int), e = .returned (.tuple #[.int .i64 q, .int .i64 x]) ∧ Below w.heap.size w w' := by
  have H_pick := Lib.hid (fun k q w' (hc : Cu w' w.heap.size a n c k) (hk : k ≤ 800) => pick_any w.heap.size a n c k q w' hc (by omega))
  have H_size := Lib.hid (fun k w' (hc : Cu w' w.heap.size a n c k) (hk : k ≤ 800) => size_any w.heap.size a n c k w' hc (by omega))
  have HC0 := Lib.hid (h.cur c)
  have HK0 := Lib.hid (Kp.refl w.heap.size (w.alloc (.cells #[.slice a n c, .int .i64 0, .int .u64 0] 57)))
  have HCL : Hid (w.heap.size < (w.alloc (.cells #[.slice a n c, .int .i64 0, .int .u64 0] 57)).heap.size) := Lib.hid (h.cur c).lt
  clear h
  go_enter Tryz.func17, Tryz.ntmps17
  go_wp2_with fail
  refine (H_size.out _ _ HC0.out (by omega)).mono ?_
  rintro e w1 ⟨q, rfl, hc, hk⟩
  have HC1 := Lib.hid hc
  have HK1 := Lib.hid (HK0.out.trans hk)
  clear hc hk HC0 HK0
  go_wp2_with fail
  refine (H_pick.out _ _ _ HC1.out (by omega)).mono ?_
  rintro e w2 ⟨x, rfl, _, _, hc, hk⟩
  have HC2 := Lib.hid hc
  have HK2 := Lib.hid (HK1.out.trans hk)
  clear hc hk HC1 HK1
  have hst := HK2.out.start
  have hsz := hst.size
  clear HC2
  go_wp2
  go_ret2
  exact ⟨q, _, rfl, hst⟩
end Go.Proofs.YtapglncgicfjnabGreat
/-! LV -/
namespace Go.Proofs.YtapglncgicfjnabGreat
open Go.RowKit
theorem Tryz.infoR : (Tryz.prog.info? 24).map (fun i => (i.zero, i.size, i.bytes)) = some (some (.slice none 0 0), 1, 24) := by kernel_rfl
def flv (X : Nat → Value) (n : Nat) : List Value := (List.range n).map X
theorem flv_len (X : Nat → Value) (n : Nat) : (flv X n).length = n := by simp [flv]
theorem flv_succ (X : Nat → Value) (n : Nat) : flv X (n + 1) = flv X n ++ [X n] := by simp [flv, List.range_succ]
theorem flv_get (X : Nat → Value) (n i : Nat) (h : i < n) : (flv X n)[i]? = some (X i) := by simp [flv, h]
theorem flv_congr {X Y : Nat → Value} {n : Nat} (h : ∀ i, i < n → X i = Y i) : flv X n = flv Y n := by
  unfold flv
  exact List.map_congr_left fun i hi => h i (List.mem_range.1 hi)
/-- One place changed. -/
def set1 {α : Type} (f : Nat → α) (i : Nat) (x : α) : Nat → α := fun j => if j = i then x else f j
theorem set1_at {α : Type} (f : Nat → α) (i : Nat) (x : α) : set1 f i x i = x := by simp [set1]
theorem set1_ne {α : Type} (f : Nat → α) (i j : Nat) (x : α) (h : j ≠ i) : set1 f i x j = f j := by simp [set1, h]
/-- n slices of integers, each in its own memory, from block B on. -/
structure RS (w : World) (B : Nat) (v : Value) (n : Nat) (F : Nat → List Int) (X : Nat → Value) : Prop where
  outer : w.ownsRow B 24 1 v n (flv X n)
  inner : ∀ i, i < n → Row w B (X i) (F i)
  apart : ∀ i j, i < j → j < n → ∀ g, (X i).ownBlock = some g → (X j).ownBlock ≠ some g
theorem outer_ne {w : World} {B B' n : Nat} {v u : Value} {xs : List Value} {l : List Int} (h : w.ownsRow B 24 1 v n xs) (hu : Row w B' u l) {g : Nat} (hg : u.ownBlock = some g) : v.ownBlock ≠ some g := by
  intro e
  rcases h.2 with ⟨rfl, _⟩ | ⟨g1, c1, cur1, rfl, _, h1, _⟩
  · simp [Value.ownBlock] at e
  · rcases hu.2 with ⟨rfl, _⟩ | ⟨g2, c2, cur2, rfl, _, h2, _⟩
    · simp [Value.ownBlock] at hg
    · simp [Value.ownBlock] at e hg
      subst e
      subst hg
      rw [h1] at h2
      simp at h2
theorem outer_kept {w w' : World} {B n : Nat} {v : Value} {xs : List Value} (h : w.ownsRow B 24 1 v n xs) (hk : ∀ g, v.ownBlock = some g → w'.heap[g]? = w.heap[g]?) : w'.ownsRow B 24 1 v n xs := by
  refine ⟨h.1, ?_⟩
  rcases h.2 with hn | ⟨g, cap, cur, rfl, hb, hgg, rest⟩
  · exact .inl hn
  · exact .inr ⟨g, cap, cur, rfl, hb, (hk g rfl).trans hgg, rest⟩
theorem RS.nil (w : World) (B : Nat) (F : Nat → List Int) (X : Nat → Value) : RS w B (.slice none 0 0) 0 F X :=
  ⟨World.ownsRow_nil _ _ _ _, fun _ hi => absurd hi (Nat.not_lt_zero _), fun _ _ _ hj => absurd hj (Nat.not_lt_zero _)⟩
theorem RS.keep {w w' : World} {B n : Nat} {v : Value} {F : Nat → List Int} {X : Nat → Value} (h : RS w B v n F X) (ho : ∀ g, v.ownBlock = some g → w'.heap[g]? = w.heap[g]?) (hi : ∀ i, i < n → ∀ g, (X i).ownBlock = some g → w'.heap[g]? = w.heap[g]?) : RS w' B v n F X :=
  ⟨outer_kept h.outer ho, fun i hin => (h.inner i hin).keep (hi i hin), h.apart⟩
theorem RS.lt {w : World} {B n : Nat} {v : Value} {F : Nat → List Int} {X : Nat → Value} (h : RS w B v n F X) : ∀ g, v.ownBlock = some g → B ≤ g ∧ g < w.heap.size := World.ownsRow.lt h.outer
theorem RS.below {w w' : World} {B n : Nat} {v : Value} {F : Nat → List Int} {X : Nat → Value} (h : RS w B v n F X) (hb : Below w.heap.size w w') : RS w' B v n F X :=
  h.keep (fun g hg => hb.block g (h.lt g hg).2) (fun i hi g hg => hb.block g ((h.inner i hi).lt g hg).2)
theorem RS.alloc {w : World} {B n : Nat} {v : Value} {F : Nat → List Int} {X : Nat → Value} (h : RS w B v n F X) (o : Obj) : RS (w.alloc o) B v n F X :=
  h.below ((Below.refl _ _).alloc (Nat.le_refl _) o)
theorem RS.mono {w : World} {B B' n : Nat} {v : Value} {F : Nat → List Int} {X : Nat → Value} (h : RS w B v n F X) (hB : B' ≤ B) : RS w B' v n F X := by
  refine ⟨⟨h.outer.1, ?_⟩, fun i hi => (h.inner i hi).mono hB, h.apart⟩
  rcases h.outer.2 with hn | ⟨g, cap, cur, rfl, hb, rest⟩
  · exact .inl hn
  · exact .inr ⟨g, cap, cur, rfl, by omega, rest⟩
theorem RS.congr {w : World} {B n : Nat} {v : Value} {F F' : Nat → List Int} {X : Nat → Value} (h : RS w B v n F X) (e : ∀ i, i < n → F i = F' i) : RS w B v n F' X :=
  ⟨h.outer, fun i hi => by rw [← e i hi]; exact h.inner i hi, h.apart⟩
theorem RS.form {w : World} {B n : Nat} {v : Value} {F : Nat → List Int} {X : Nat → Value} (h : RS w B v n F X) (hn : 0 < n) : ∃ g cap, v = .slice (some ⟨g, 0, none⟩) n cap ∧ B ≤ g ∧ g < w.heap.size ∧ ∀ i, i < n → w.cell? ⟨g, i, none⟩ = some (X i) := by
  rcases h.outer.2 with ⟨_, h0⟩ | ⟨g, cap, cur, rfl, hb, hgg, rest⟩
  · omega
  · refine ⟨g, cap, rfl, hb, (Array.getElem?_eq_some_iff.1 hgg).1, fun i hi => ?_⟩
    have := World.ownsRow.cells h.outer (g := g) rfl i (X i) (flv_get X n i hi)
    have hadd : (⟨g, 0, none⟩ : Addr).add i = ⟨g, i, none⟩ := by unfold Addr.add; split <;> simp_all
    rwa [hadd] at this
theorem RS.empty {w : World} {B : Nat} {v : Value} {F : Nat → List Int} {X : Nat → Value} (h : RS w B v 0 F X) : ∃ a cap, v = .slice a 0 cap := by
  rcases h.outer.2 with ⟨rfl, _⟩ | ⟨g, cap, cur, rfl, _⟩
  · exact ⟨_, _, rfl⟩
  · exact ⟨_, _, rfl⟩
/-- One more slice. -/
theorem RS.appended {w w' : World} {B n : Nat} {v v' u : Value} {F : Nat → List Int} {X : Nat → Value} {l : List Int} (h : RS w B v n F X) (hg : w.grownBy w' v.ownBlock) (hown : w'.ownsRow B 24 1 v' (n + 1) (flv X n ++ [u])) (hu : Row w B u l)
    (ha : ∀ i, i < n → ∀ g, (X i).ownBlock = some g → u.ownBlock ≠ some g) : RS w' B v' (n + 1) (set1 F n l) (set1 X n u) := by
  have hi : ∀ i, i < n → set1 X n u i = X i := fun i hi => set1_ne _ _ _ _ (by omega)
  refine ⟨?_, ?_, ?_⟩
  · rw [flv_succ, set1_at, flv_congr hi]
    exact hown
  · intro i hin
    by_cases e : i = n
    · subst e
      rw [set1_at, set1_at]
      exact hu.keep fun g hgg => hg.block g (hu.lt g hgg).2 fun e => outer_ne h.outer hu hgg e.symm
    · rw [set1_ne _ _ _ _ e, set1_ne _ _ _ _ e]
      have hr := h.inner i (by omega)
      exact hr.keep fun g hgg => hg.block g (hr.lt g hgg).2 fun e => outer_ne h.outer hr hgg e.symm
  · intro i j hij hj g hgg
    rw [hi i (by omega)] at hgg
    by_cases e : j = n
    · subst e
      rw [set1_at]
      exact ha i (by omega) g hgg
    · rw [set1_ne _ _ _ _ e]
      exact h.apart i j hij (by omega) g hgg
/-- One slice written anew. -/
theorem RS.wrote {w w' : World} {B n i : Nat} {v : Value} {F : Nat → List Int} {X : Nat → Value} {l : List Int} (h : RS w B v n F X) (hi : i < n) (hr : Row w' B (X i) l) (hg : w.grownBy w' (X i).ownBlock) : RS w' B v n (set1 F i l) X := by
  refine ⟨outer_kept h.outer fun g hgg => hg.block g (h.lt g hgg).2 fun e => outer_ne h.outer (h.inner i hi) e.symm hgg, ?_, h.apart⟩
  intro j hj
  by_cases e : j = i
  · subst e
    rw [set1_at]
    exact hr
  · rw [set1_ne _ _ _ _ e]
    have hrj := h.inner j hj
    refine hrj.keep fun g hgg => hg.block g (hrj.lt g hgg).2 fun e' => ?_
    rcases Nat.lt_or_gt_of_ne e with c | c
    · exact h.apart j i c hi g hgg e'.symm
    · exact h.apart i j c hj g e'.symm hgg
/-- How many numbers there are before the slice i. -/
def ofs (F : Nat → List Int) : Nat → Nat
  | 0 => 0
  | k + 1 => ofs F k + (F k).length
theorem ofs_le (F : Nat → List Int) {i n : Nat} (h : i ≤ n) : ofs F i ≤ ofs F n := by
  induction n with
  | zero => obtain rfl : i = 0 := by omega
            exact Nat.le_refl _
  | succ n ih =>
    by_cases e : i = n + 1
    · subst e; exact Nat.le_refl _
    · have := ih (by omega)
      simp only [ofs]
      omega
theorem ofs_len (F : Nat → List Int) {i n : Nat} (h : i < n) : ofs F i + (F i).length ≤ ofs F n := ofs_le F (show i + 1 ≤ n from h)
theorem ofs_congr {F G : Nat → List Int} {n : Nat} (h : ∀ i, i < n → F i = G i) : ofs F n = ofs G n := by
  induction n with
  | zero => rfl
  | succ n ih => rw [ofs, ofs, ih fun i hi => h i (by omega), h n (by omega)]
/-- The first i slices marked. -/
def mkF (F : Nat → List Int) (k : Int) (i : Nat) : Nat → List Int := fun j => if j < i then mrk (k + (ofs F j : Nat)) (F j).length else F j
theorem mkF_zero (F : Nat → List Int) (k : Int) : mkF F k 0 = F := by funext j; simp [mkF]
theorem mkF_at (F : Nat → List Int) (k : Int) (i : Nat) : mkF F k i i = F i := by simp [mkF]
theorem mkF_succ (F : Nat → List Int) (k : Int) (i : Nat) : set1 (mkF F k i) i (mrk (k + (ofs F i : Nat)) (F i).length) = mkF F k (i + 1) := by
  funext j
  by_cases e : j = i
  · subst e
    rw [set1_at]
    simp [mkF]
  · rw [set1_ne _ _ _ _ e]
    unfold mkF
    by_cases h : j < i
    · rw [if_pos h, if_pos (by omega)]
    · rw [if_neg h, if_neg (by omega)]
theorem mkF_of (F : Nat → List Int) (k : Int) {i n : Nat} (h : i < n) : mkF F k n i = mrk (k + (ofs F i : Nat)) (F i).length := by simp [mkF, h]
theorem RS.slc {w : World} {B n : Nat} {v : Value} {F : Nat → List Int} {X : Nat → Value} (h : RS w B v n F X) : ∃ a cap, v = .slice a n cap := by
  by_cases h0 : 0 < n
  · obtain ⟨g, cap, e, _⟩ := h.form h0
    exact ⟨_, _, e⟩
  · obtain rfl : n = 0 := by omega
    exact h.empty
theorem RS.ltX {w : World} {B n : Nat} {v : Value} {F : Nat → List Int} {X : Nat → Value} (h : RS w B v n F X) : ∀ i, i < n → ∀ g, (X i).ownBlock = some g → B ≤ g ∧ g < w.heap.size := fun i hi g hg => (h.inner i hi).lt g hg
theorem RS.frozen {w : World} {B g n cap : Nat} {F : Nat → List Int} {X : Nat → Value} (h : RS w B (.slice (some ⟨g, 0, none⟩) n cap) n F X) (i : Nat) : w.frozen? ⟨g, i, none⟩ = false := World.ownsRow.frozenAt h.outer i
theorem flv_set (X : Nat → Value) (n i : Nat) (u : Value) : (flv X n).set i u = flv (set1 X i u) n := by
  refine List.ext_getElem? fun j => ?_
  by_cases hj : j < n
  · rw [flv_get _ _ _ hj]
    by_cases e : i = j
    · subst e
      rw [List.getElem?_set_self (by rw [flv_len]; exact hj), set1_at]
    · rw [List.getElem?_set_ne e, flv_get _ _ _ hj, set1_ne _ _ _ _ (fun x => e x.symm)]
  · rw [List.getElem?_eq_none (by rw [List.length_set, flv_len]; omega), List.getElem?_eq_none (by rw [flv_len]; omega)]
/-- One slice put in the place of another one. -/
theorem RS.stored {w : World} {B g n cap i : Nat} {u : Value} {F : Nat → List Int} {X : Nat → Value} {l : List Int} (h : RS w B (.slice (some ⟨g, 0, none⟩) n cap) n F X) (hi : i < n) (hu : Row w B u l)
    (ha : ∀ j, j < n → j ≠ i → ∀ g', (X j).ownBlock = some g' → u.ownBlock ≠ some g') : RS (w.setCell ⟨g, i, none⟩ u) B (.slice (some ⟨g, 0, none⟩) n cap) n (set1 F i l) (set1 X i u) := by
  refine ⟨?_, ?_, ?_⟩
  · rw [← flv_set]
    exact (World.ownsRow.stored h.outer i u).1
  · intro j hj
    by_cases e : j = i
    · subst e
      rw [set1_at, set1_at]
      exact hu.other (a := ⟨g, j, none⟩) (fun e => outer_ne h.outer hu e rfl) u
    · rw [set1_ne _ _ _ _ e, set1_ne _ _ _ _ e]
      have hr := h.inner j hj
      exact hr.other (a := ⟨g, i, none⟩) (fun e => outer_ne h.outer hr e rfl) u
  · intro j k hjk hk g' hg
    by_cases e1 : j = i
    · subst e1
      rw [set1_at] at hg
      rw [set1_ne _ _ _ _ (by omega)]
      exact fun e2 => ha k hk (by omega) g' e2 hg
    · rw [set1_ne _ _ _ _ e1] at hg
      by_cases e2 : k = i
      · subst e2
        rw [set1_at]
        exact ha j (by omega) (by omega) g' hg
      · rw [set1_ne _ _ _ _ e2]
        exact h.apart j k hjk hk g' hg
/-- The first i lists of a family. -/
def cutF (F : Nat → List Int) (i : Nat) : Nat → List Int := fun j => if j < i then F j else []
theorem cutF_step (F : Nat → List Int) (i : Nat) : set1 (cutF F i) i (F i) = cutF F (i + 1) := by
  funext j
  by_cases e : j = i
  · subst e
    rw [set1_at]
    simp [cutF]
  · rw [set1_ne _ _ _ _ e]
    unfold cutF
    by_cases h : j < i
    · rw [if_pos h, if_pos (by omega)]
    · rw [if_neg h, if_neg (by omega)]
theorem RS.made {w : World} {B g n : Nat} (F : Nat → List Int) (h : w.ownsRow B 24 1 (.slice (some ⟨g, 0, none⟩) n n) n (madeCells #[Value.slice none 0 0] n).toList) : RS w B (.slice (some ⟨g, 0, none⟩) n n) n (cutF F 0) (fun _ => .slice none 0 0) := by
  refine ⟨?_, fun i _ => ?_, fun _ _ _ _ _ hg => by cases hg⟩
  · rw [toList_madeCells_one] at h
    have e : flv (fun _ => Value.slice none 0 0) n = List.replicate n (Value.slice none 0 0) := by
      refine List.ext_getElem (by simp [flv]) fun j h1 h2 => ?_
      simp [flv]
    rw [e]
    exact h
  · have e : cutF F 0 i = [] := if_neg (Nat.not_lt_zero _)
    rw [e]
    exact Row.nil _ _
theorem RS.all {w : World} {B n : Nat} {v : Value} {F : Nat → List Int} {X : Nat → Value} (h : RS w B v n (cutF F n) X) : RS w B v n F X := h.congr fun _ hi => if_pos hi
theorem ofs_bd {F : Nat → List Int} {c : Nat} (h : ∀ i, (F i).length ≤ c) : ∀ n, ofs F n ≤ c * n := by
  intro n
  induction n with
  | zero => exact Nat.le_refl _
  | succ n ih =>
    have := h n
    show ofs F n + (F n).length ≤ c * (n + 1)
    rw [Nat.mul_succ]
    omega
/-- v reads as n lists. -/
def Sls (w : World) (v : Value) (n : Nat) (F : Nat → List Int) : Prop :=
  (n = 0 ∧ ∃ a cap, v = .slice a 0 cap) ∨
  ∃ b off cap, ∃ X : Nat → Value, v = .slice (some ⟨b, off, none⟩) n cap ∧ b < w.heap.size ∧ ∀ i, i < n → w.cell? ⟨b, off + i, none⟩ = some (X i) ∧ Sl w (X i) (F i)
theorem Sls.below {w w' : World} {v : Value} {n B : Nat} {F : Nat → List Int} (h : Sls w v n F) (hb : Below B w w') (hB : w.heap.size ≤ B) : Sls w' v n F := by
  rcases h with h | ⟨b, off, cap, X, rfl, hlt, hc⟩
  · exact .inl h
  · exact .inr ⟨b, off, cap, X, rfl, by have := hb.size; omega, fun i hi => ⟨(hb.cell (p := ⟨b, off + i, none⟩) (show b < B by omega)).trans (hc i hi).1, (hc i hi).2.below hb hB⟩⟩
theorem Sls.form {w : World} {v : Value} {n : Nat} {F : Nat → List Int} (h : Sls w v n F) : ∃ a cap, v = .slice a n cap := by
  rcases h with ⟨rfl, a, cap, rfl⟩ | ⟨b, off, cap, X, rfl, _⟩
  · exact ⟨_, _, rfl⟩
  · exact ⟨_, _, rfl⟩
theorem Sls.open {w : World} {v : Value} {n : Nat} {F : Nat → List Int} (h : Sls w v n F) (hn : 0 < n) : ∃ b off cap, ∃ X : Nat → Value, v = .slice (some ⟨b, off, none⟩) n cap ∧ b < w.heap.size ∧ ∀ i, i < n → w.cell? ⟨b, off + i, none⟩ = some (X i) ∧ Sl w (X i) (F i) := by
  rcases h with ⟨rfl, _⟩ | h
  · omega
  · exact h
/-- Slices of one's own as read. -/
def Rs (w : World) (v : Value) (n : Nat) (F : Nat → List Int) : Prop := ∃ B X, RS w B v n F X
theorem Rs.below {w w' : World} {v : Value} {n : Nat} {F : Nat → List Int} (h : Rs w v n F) (hb : Below w.heap.size w w') : Rs w' v n F := by
  obtain ⟨B, X, hr⟩ := h
  exact ⟨B, X, hr.below hb⟩
theorem RS.rs {w : World} {B n : Nat} {v : Value} {F : Nat → List Int} {X : Nat → Value} (h : RS w B v n F X) : Rs w v n F := ⟨B, X, h⟩
theorem RS.slsQ {w : World} {B n : Nat} {v : Value} {F : Nat → List Int} {X : Nat → Value} (h : RS w B v n F X) : Sls w v n F := by
  by_cases hn : 0 < n
  · obtain ⟨g, cap, rfl, h1, h2, h3⟩ := h.form hn
    exact .inr ⟨g, 0, cap, X, rfl, h2, fun i hi => ⟨by rw [Nat.zero_add]; exact h3 i hi, (h.inner i hi).sl⟩⟩
  · obtain rfl : n = 0 := by omega
    exact .inl ⟨rfl, h.empty⟩
set_option maxHeartbeats 1000000 in
/-- laws.tSame, of two slices that hold the same. -/
theorem tSame_same (v1 v2 : Value) (l : List Int) (w : World) (h1 : Sl w v1 l) (h2 : Sl w v2 l) (hl : l.length ≤ 1048576) :
    Calls Tryz.prog 11 #[v1, v2] w fun e w' => e = .returned (.bool true) ∧ Below w.heap.size w w' := by
  by_cases h0 : 0 < l.length
  · obtain ⟨b1, o1, c1, rfl, hb1, hc1⟩ := h1.open rfl h0
    obtain ⟨b2, o2, c2, rfl, hb2, hc2⟩ := h2.open rfl h0
    have HC1 := Lib.hid hc1
    have HC2 := Lib.hid hc2
    clear h1 h2 hc1 hc2
    generalize hn : l.length = n at *
    go_enter Tryz.func11, Tryz.ntmps11
    go_wp2_with fail
    go_loopw [13] (fun vi wr => ∃ i : Nat, i ≤ n ∧ vi = .int .i64 i ∧ Below w.heap.size w wr) (fun vi _ => n - (intOf vi).toNat)
    case atStart => exact ⟨0, Nat.zero_le _, rfl, by (repeat' (first | (with_reducible assumption) | (with_reducible exact Below.refl _ _) | (with_reducible refine below_drewN ?_ _) | (with_reducible refine Below.drew ?_) | (with_reducible refine Below.alloc ?_ ?_ _) | (with_reducible refine Below.setCell ?_ ?_ _) | (with_reducible refine Below.trans ?_ (Below.mono (by assumption) ?_)) | (with_reducible exact Nat.le_refl _) | (with_reducible assumption) | omega | (simp; omega) | (simp; done)))⟩
    case round =>
      obtain ⟨i, hi, rfl, hb⟩ := hrel
      by_cases hlt : i < n
      · have e1 := (hb.cell (p := ⟨b1, o1 + i, none⟩) hb1).trans (HC1.out i hlt)
        have e2 := (hb.cell (p := ⟨b2, o2 + i, none⟩) hb2).trans (HC2.out i hlt)
        have hz := hb.size
        have HB := Lib.hid hb; clear hb
        generalize l.getD i 0 = x at *
        have l1 : b1 < wr.heap.size := by omega
        have l2 : b2 < wr.heap.size := by omega
        go_wp2_with fail
        go_region
        go_wp2_with fail
        go_roundw
        case rel => exact ⟨i + 1, by omega, by go_num, by have hb := HB.out; (repeat' (first | (with_reducible assumption) | (with_reducible exact Below.refl _ _) | (with_reducible refine below_drewN ?_ _) | (with_reducible refine Below.drew ?_) | (with_reducible refine Below.alloc ?_ ?_ _) | (with_reducible refine Below.setCell ?_ ?_ _) | (with_reducible refine Below.trans ?_ (Below.mono (by assumption) ?_)) | (with_reducible exact Nat.le_refl _) | (with_reducible assumption) | omega | (simp; omega) | (simp; done)))⟩
        case measure => simp [intOf]; omega
      · obtain rfl : n = i := by omega
        have HB := Lib.hid hb; clear hb
        go_wp2
        go_ret
        exact ⟨rfl, HB.out⟩
  · obtain rfl : l = [] := List.length_eq_zero_iff.1 (by omega)
    obtain ⟨a1, c1, rfl⟩ := h1.empty
    obtain ⟨a2, c2, rfl⟩ := h2.empty
    clear h1 h2 h0 hl
    go_enter Tryz.func11, Tryz.ntmps11
    go_wp2_with fail
    go_loopw [13] (fun vi wr => vi = .int .i64 0 ∧ wr = w) (fun _ _ => 0)
    case atStart => exact ⟨rfl, rfl⟩
    case round =>
      obtain ⟨rfl, rfl⟩ := hrel
      go_wp2
      go_ret
      exact ⟨rfl, Below.refl _ _⟩
theorem big_yes (a0 a1 : Option Addr) (n0 c0 n1 c1 : Nat) (w : World) (h : ¬ n0 + n1 ≤ 1048576) :
    Calls Tryz.prog 7 #[.slice a0 n0 c0, .slice a1 n1 c1] w fun e w' => e = .returned (.bool true) ∧ w = w' := by
  by_cases h0 : 1048576 < n0
  · have h1 : (1048576 : Int) < (n0 : Int) := by omega
    go_enter Tryz.func7, Tryz.ntmps7
    go_wp2
    go_ret
    exact ⟨by first | rfl | simp [h1], by first | rfl | trivial⟩
  · have h1 : ¬ (1048576 : Int) < (n0 : Int) := by omega
    have h2 : (1048576 : Int) - (n0 : Int) < (n1 : Int) := by omega
    have hw : IntKind.i64.wrap (1048576 - (n0 : Int)) = 1048576 - (n0 : Int) := IntWalk.i64_in _ (by omega)
    go_enter Tryz.func7, Tryz.ntmps7
    go_wp2
    go_ret
    exact ⟨by first | rfl | simp [h2], by first | rfl | trivial⟩
set_option maxHeartbeats 1000000 in
/-- laws.tHas. -/
theorem tHas_any (v : Value) (l : List Int) (z : Int) (w : World) (hv : Sl w v l) (hl : l.length ≤ 1048576) :
    Calls Tryz.prog 16 #[v, .int .i64 z] w fun e w' => e = .returned (.bool (decide (z ∈ l))) ∧ Below w.heap.size w w' := by
  by_cases h0 : 0 < l.length
  · obtain ⟨b1, o1, c1, rfl, hb1, hc1⟩ := hv.open rfl h0
    have HC1 := Lib.hid hc1
    have HIN : Hid (∀ i, i < l.length → l.getD i 0 ∈ l) := Lib.hid fun i hi => by rw [show l.getD i 0 = l[i] by simp [List.getD, hi]]; exact List.getElem_mem hi
    have HNO : Hid ((∀ j, j < l.length → l.getD j 0 ≠ z) → decide (z ∈ l) = false) := Lib.hid fun hj => decide_eq_false fun hz => by
      obtain ⟨i, hi, e⟩ := List.getElem_of_mem hz
      exact hj i hi (by rw [← e]; simp [List.getD, hi])
    clear hv hc1
    generalize hn : l.length = n at *
    go_enter Tryz.func16, Tryz.ntmps16
    go_wp2_with fail
    go_loopw [9] (fun vi wr => ∃ i : Nat, i ≤ n ∧ vi = .int .i64 i ∧ (∀ j, j < i → l.getD j 0 ≠ z) ∧ Below w.heap.size w wr) (fun vi _ => n - (intOf vi).toNat)
    case atStart => exact ⟨0, Nat.zero_le _, rfl, fun j hj => absurd hj (by omega), Below.refl _ _⟩
    case round =>
      obtain ⟨i, hi, rfl, hj, hb⟩ := hrel
      have HJ := Lib.hid hj; clear hj
      by_cases hlt : i < n
      · have e1 := (hb.cell (p := ⟨b1, o1 + i, none⟩) hb1).trans (HC1.out i hlt)
        have HI := Lib.hid (HIN.out i hlt)
        have hz := hb.size
        have HB := Lib.hid hb; clear hb
        have HX : Hid (∀ y, l.getD i 0 = y → l.getD i 0 = y) := Lib.hid fun _ h => h
        obtain ⟨x, hx⟩ : ∃ x, l.getD i 0 = x := ⟨_, rfl⟩
        have HXX := Lib.hid hx
        rw [hx] at e1
        clear hx HX
        have l1 : b1 < wr.heap.size := by omega
        by_cases hxz : x = z
        · subst hxz
          go_wp2
          go_ret
          exact ⟨by rw [decide_eq_true (show x ∈ l by have := HI.out; rwa [HXX.out] at this)]; rfl, HB.out⟩
        · go_wp2
          go_roundw
          case rel => exact ⟨i + 1, by omega, by go_num, fun j hj => by rcases Nat.lt_succ_iff_lt_or_eq.1 hj with h | rfl; exact HJ.out j h; rw [HXX.out]; exact hxz, HB.out⟩
          case measure => simp [intOf]; omega
      · obtain rfl : n = i := by omega
        have HB := Lib.hid hb; clear hb
        go_wp2
        go_ret
        exact ⟨by rw [HNO.out HJ.out]; rfl, HB.out⟩
  · obtain rfl : l = [] := List.length_eq_zero_iff.1 (by omega)
    obtain ⟨a1, c1, rfl⟩ := hv.empty
    clear hv h0 hl
    go_enter Tryz.func16, Tryz.ntmps16
    go_wp2_with fail
    go_loopw [9] (fun vi wr => vi = .int .i64 0 ∧ wr = w) (fun _ _ => 0)
    case atStart => exact ⟨rfl, rfl⟩
    case round =>
      obtain ⟨rfl, rfl⟩ := hrel
      go_wp2
      go_ret
      exact ⟨by simp, Below.refl _ _⟩
set_option maxRecDepth 100000 in
set_option maxHeartbeats 40000000 in
/-- laws.FnValuesMade. -/
theorem walk_FnValuesMade (a0 : Option Addr) (n0 c0 : Nat) (z0 : List Int) (a1 : Option Addr) (n1 c1 : Nat) (z1 : List Int) (w : World) (h0 : IsRow .u8 w a0 n0 c0 z0) (h1 : IsRow .u8 w a1 n1 c1 z1) :
    Calls Tryz.prog 3 #[.slice a0 n0 c0, .slice a1 n1 c1] w fun e w' => e = .returned (.bool true) ∧ Below w.heap.size w w' := by
  by_cases hbg : n0 + n1 ≤ 1048576
  · have HBG := Lib.hid (big_no a0 a1 n0 c0 n1 c1 w hbg)
    have H0 := Lib.hid (h0.bys (by omega))
    have H1 := Lib.hid (h1.bys (by omega))
    clear h0 h1 hbg
    go_enter Tryz.func3, Tryz.ntmps3
    go_wp2_with fail
    refine HBG.out.mono ?_
    rintro e _ ⟨rfl, rfl⟩
    clear HBG
    go_wp2_with fail
    refine (drawWithValues_any a0 n0 c0 _ H0.out).mono ?_
    rintro e wu1 ⟨q, v0, l, rfl, hl48, hr, hb⟩
    have S_v0 := Lib.hid hr.sl; clear hr
    have HB1 := Lib.hid hb; clear hb
    obtain ⟨F, o, hl, i1, i2, i3⟩ := ask_With q l (by omega)
    have HL := Lib.hid hl; clear hl
    have HL0 : Hid (l.length ≤ 1048576) := Lib.hid (by omega)
    clear hl48
    have I1 := Lib.hid i1; clear i1
    have I2 := Lib.hid i2; clear i2
    have I3 := Lib.hid i3; clear i3
    go_wp2_with fail
    refine (I1.out _ v0 S_v0.out).mono ?_
    rintro e wu2 ⟨v1, rfl, hr, hb⟩
    have S_v1 := Lib.hid hr.sl; clear hr
    have HB2 := Lib.hid hb; clear hb
    go_wp2_with fail
    refine (I2.out _ v0 (S_v0.out.below HB2.out (Nat.le_refl _))).mono ?_
    rintro e wu3 ⟨v2, rfl, hr, hb⟩
    have S_v2 := Lib.hid hr.sl; clear hr
    have HB3 := Lib.hid hb; clear hb
    go_wp2_with fail
    refine (tSame_same v1 v2 F _ (S_v1.out.below HB3.out (Nat.le_refl _)) S_v2.out HL.out).mono ?_
    rintro e wu4 ⟨rfl, hb⟩
    have HB4 := Lib.hid hb; clear hb
    go_upto_if 63 with (fail)
    go_cut [4, 7, 8, 9, 10, 11, 12] from 34 to 78 (fun s4 _s7 _s8 _s9 _s10 _s11 _s12 wx => s4 = .bool false ∧ Below w.heap.size w wx)
    case first =>
      cases o with
      | false =>
        go_wp2_with fail
        go_meet
        exact ⟨rfl, (stp (stp (stp HB1.out HB2.out) HB3.out) HB4.out)⟩
      | true =>
        have J3 := Lib.hid (I3.out rfl); clear I3
        go_wp2_with fail
        refine (J3.out _ v1 (S_v1.out.below (stp HB3.out HB4.out) (Nat.le_refl _))).mono ?_
        rintro e wu5 ⟨v3, rfl, hr, hb⟩
        have S_v3 := Lib.hid hr.sl; clear hr
        have HB5 := Lib.hid hb; clear hb
        go_wp2_with fail
        refine (tSame_same v3 v0 l _ S_v3.out (S_v0.out.below (stp (stp (stp HB2.out HB3.out) HB4.out) HB5.out) (Nat.le_refl _)) HL0.out).mono ?_
        rintro e wu6 ⟨rfl, hb⟩
        have HB6 := Lib.hid hb; clear hb
        go_wp2_with fail
        go_meet
        exact ⟨rfl, (stp (stp (stp (stp (stp HB1.out HB2.out) HB3.out) HB4.out) HB5.out) HB6.out)⟩
    case rest =>
      obtain ⟨rfl, hbc⟩ := hcut
      obtain ⟨wc7, rfl⟩ : ∃ z : World, z = wc := ⟨_, rfl⟩
      have HBwc7 := Lib.hid hbc; clear hbc
      go_wp2_with fail
      refine (drawValuesOfSet_any a1 n1 c1 _ (H1.out.below HBwc7.out)).mono ?_
      rintro e wu8 ⟨r, v0, l, u0, s, rfl, hl48, hr, hs48, hr2, hb⟩
      have HB8 := Lib.hid hb; clear hb
      have S_v0 := Lib.hid hr.sl; clear hr
      have S_u0 := Lib.hid hr2.sl; clear hr2
      obtain ⟨P, o, hp, i1, i2, i3⟩ := ask_Set r l s (by omega) (by omega)
      have HP := Lib.hid hp; clear hp
      clear hl48 hs48
      have I1 := Lib.hid i1; clear i1
      have I2 := Lib.hid i2; clear i2
      have I3 := Lib.hid i3; clear i3
      obtain ⟨ua, uc, rfl⟩ := S_u0.out.form
      go_wp2_with fail
      refine (I1.out _ v0 _ S_v0.out S_u0.out).mono ?_
      rintro e wu9 ⟨v1, rfl, hr, hb⟩
      have S_v1 := Lib.hid hr.sl; clear hr
      have HB9 := Lib.hid hb; clear hb
      go_wp2_with fail
      refine (I2.out _ v0 _ (S_v0.out.below HB9.out (Nat.le_refl _)) (S_u0.out.below HB9.out (Nat.le_refl _))).mono ?_
      rintro e wu10 ⟨v2, rfl, hr, hb⟩
      have S_v2 := Lib.hid hr.sl; clear hr
      have HB10 := Lib.hid hb; clear hb
      go_wp2_with fail
      refine (tSame_same v1 v2 P _ (S_v1.out.below HB10.out (Nat.le_refl _)) S_v2.out HP.out).mono ?_
      rintro e wu11 ⟨rfl, hb⟩
      have HB11 := Lib.hid hb; clear hb
      go_upto_if 107 with (fail)
      go_cut [4, 16, 17, 18, 19, 20, 21, 22, 23] from 79 to 133 (fun s4 _s16 _s17 _s18 _s19 _s20 _s21 _s22 _s23 wx => s4 = .bool false ∧ Below w.heap.size w wx)
      case first =>
        cases o with
        | false =>
          go_wp2_with fail
          go_meet
          exact ⟨rfl, (stp (stp (stp (stp HBwc7.out HB8.out) HB9.out) HB10.out) HB11.out)⟩
        | true =>
          obtain ⟨hlen, L, hL, hin, j1⟩ := I3.out rfl
          clear I1 I2 I3
          have HLL := Lib.hid hL; clear hL
          have HIN := Lib.hid hin; clear hin
          have J1 := Lib.hid j1; clear j1
          have hgt : ¬ s.length < P.length := by omega
          have SP := Lib.hid (S_v1.out.below (stp HB10.out HB11.out) (Nat.le_refl _))
          obtain ⟨pa, pc, rfl⟩ := SP.out.form
          go_wp2_with fail
          refine (J1.out _ v0 (S_v0.out.below (stp (stp HB9.out HB10.out) HB11.out) (Nat.le_refl _))).mono ?_
          rintro e wu12 ⟨v3, rfl, hr, hb⟩
          have S_v3 := Lib.hid hr.sl; clear hr
          have HB12 := Lib.hid hb; clear hb
          have SQ : Hid (Sl wu12 _ P) := Lib.hid (SP.out.below HB12.out (Nat.le_refl _))
          have HT : Hid (∀ w' (x : Int), Below wu12.heap.size wu12 w' → Calls Tryz.prog 16 #[v3, .int .i64 x] w' fun e w'' => e = .returned (.bool (decide (x ∈ L))) ∧ Below w'.heap.size w' w'') := Lib.hid fun w' x hb => tHas_any v3 L x w' (S_v3.out.below hb (Nat.le_refl _)) HLL.out
          have HC : Hid (∀ i, i < P.length → ∃ b off, pa = some ⟨b, off, none⟩ ∧ b < wu12.heap.size ∧ wu12.cell? ⟨b, off + i, none⟩ = some (.int .i64 (P.getD i 0))) := Lib.hid fun i hi => by
            obtain ⟨b, off, cp, e, hb, hc⟩ := SQ.out.open rfl (by omega)
            cases e
            exact ⟨b, off, rfl, hb, hc i hi⟩
          clear SP SQ hlen
          have hnP := HP.out
          go_wp2_with fail
          clear hgt
          generalize P.length = nP at *
          go_loopw [4, 125] (fun v4 vi wr => ∃ i : Nat, i ≤ nP ∧ v4 = .bool false ∧ vi = .int .i64 i ∧ Below wu12.heap.size wu12 wr) (fun _ vi _ => nP - (intOf vi).toNat)
          case atStart => exact ⟨0, Nat.zero_le _, rfl, rfl, Below.refl _ _⟩
          case round =>
            obtain ⟨i, hi, rfl, rfl, hb⟩ := hrel
            have HBW := Lib.hid hb; clear hb
            by_cases hlt : i < nP
            · obtain ⟨b, off, rfl, hbl, hcl⟩ := HC.out i hlt
              have e1 := (HBW.out.cell (p := ⟨b, off + i, none⟩) hbl).trans hcl
              have HTI := Lib.hid (fun w' hb => HT.out w' (P.getD i 0) hb)
              rw [HIN.out i hlt] at HTI
              have l1 : b < wr.heap.size := by have := HBW.out.size; omega
              clear hcl
              generalize P.getD i 0 = y at *
              go_wp2_with fail
              refine (HTI.out _ HBW.out).mono ?_
              rintro e y1 ⟨rfl, hy⟩
              have HY1 := Lib.hid (stp HBW.out hy); clear hy
              go_wp2
              go_roundw
              case rel => exact ⟨i + 1, by omega, rfl, by go_num, HY1.out⟩
              case measure => simp [intOf]; omega
            · obtain rfl : nP = i := by omega
              go_wp2_with fail
              go_meet
              exact ⟨rfl, stp (stp (stp (stp (stp (stp HBwc7.out HB8.out) HB9.out) HB10.out) HB11.out) HB12.out) HBW.out⟩
      case rest =>
        obtain ⟨rfl, hbc⟩ := hcut
        obtain ⟨wc13, rfl⟩ : ∃ z : World, z = wc := ⟨_, rfl⟩
        have HBwc13 := Lib.hid hbc; clear hbc
        go_wp2_with fail
        refine (drawLeastValues_any a1 n1 c1 _ (H1.out.below HBwc13.out)).mono ?_
        rintro e wu14 ⟨q, d, rfl, hb⟩
        have HB14 := Lib.hid hb; clear hb
        obtain ⟨a, b, o, i1, i2, i3, i4⟩ := ask_Bounds q d
        have I1 := Lib.hid i1; clear i1
        have I2 := Lib.hid i2; clear i2
        have I3 := Lib.hid i3; clear i3
        have I4 := Lib.hid i4; clear i4
        go_wp2_with fail
        refine (I1.out _).mono ?_
        rintro e wu15 ⟨rfl, hb⟩
        have HB15 := Lib.hid hb; clear hb
        go_wp2_with fail
        refine (I2.out _).mono ?_
        rintro e wu16 ⟨rfl, hb⟩
        have HB16 := Lib.hid hb; clear hb
        go_wp2_with fail
        refine (I3.out _).mono ?_
        rintro e wu17 ⟨rfl, hb⟩
        have HB17 := Lib.hid hb; clear hb
        go_wp2_with fail
        refine (I4.out _).mono ?_
        rintro e wu18 ⟨rfl, hb⟩
        have HB18 := Lib.hid hb; clear hb
        go_wp2
        go_ret
        exact ⟨by first | rfl | simp, (stp (stp (stp (stp (stp HBwc13.out HB14.out) HB15.out) HB16.out) HB17.out) HB18.out)⟩
  · have HBG := Lib.hid (big_yes a0 a1 n0 c0 n1 c1 w hbg)
    clear h0 h1 hbg
    go_enter Tryz.func3, Tryz.ntmps3
    go_wp2_with fail
    refine HBG.out.mono ?_
    rintro e _ ⟨rfl, rfl⟩
    go_wp2
    go_ret
    exact ⟨rfl, Below.refl _ _⟩
end Go.Proofs.YtapglncgicfjnabGreat
