/- ImageOf and RankOf, of both, by contracts; the walks of their laws. -/
import Derived.Test.YtgndlpdcebmgmacRG
namespace Go.Proofs.Ytgndlpdcebmgmac
open Go.RowKit
/-! ### increasing lists, put together -/
theorem wh_congr' {P Q : Nat → Bool} {n : Nat} (h : ∀ i, i < n → P i = Q i) : wh P n = wh Q n := by
  unfold wh
  rw [List.filter_congr fun i hi => h i (List.mem_range.1 hi)]
theorem wh_app (P : Nat → Bool) (k d : Nat) : wh P (k + d) = wh P k ++ ((List.range d).filter fun i => P (k + i)).map fun i => ((k + i : Nat) : Int) := by
  unfold wh
  rw [List.range_add, List.filter_append, List.map_append, List.filter_map, List.map_map]
  rfl
theorem wh_lt {P : Nat → Bool} {k : Nat} {x : Int} (hx : x ∈ wh P k) : x < (k : Int) := by
  unfold wh at hx
  obtain ⟨i, hi, rfl⟩ := List.mem_map.1 hx
  have := List.mem_range.1 (List.mem_filter.1 hi).1
  omega
theorem cnt_app {A B : List Int} {n : Int} (hA : ∀ x ∈ A, x < n) (hB : ∀ x ∈ B, ¬ x < n) : cnt (A ++ B) n = A.length := by
  induction A with
  | nil =>
    cases B with
    | nil => rfl
    | cons b B =>
      have := hB b (by simp)
      simp [cnt, this]
  | cons a A ih =>
    have h1 := hA a (by simp)
    have h2 := ih fun x hx => hA x (by simp [hx])
    unfold cnt at h2 ⊢
    simp [h1, h2]
theorem ins_wh (P : Nat → Bool) {k m : Nat} (hk : k < m) : ins (wh P m) (k : Int) = wh (fun y => P y || y == k) m := by
  obtain ⟨d, rfl⟩ : ∃ d, m = k + 1 + d := ⟨m - (k + 1), by omega⟩
  rw [wh_app P (k + 1) d, wh_app (fun y => P y || y == k) (k + 1) d]
  have e1 : ((List.range d).filter fun i => (fun y => P y || y == k) (k + 1 + i)) = (List.range d).filter fun i => P (k + 1 + i) := List.filter_congr fun i _ => by
    have : ((k + 1 + i) == k) = false := by simp; omega
    show (P (k + 1 + i) || (k + 1 + i) == k) = P (k + 1 + i)
    rw [this, Bool.or_false]
  have e2 : wh (fun y => P y || y == k) (k + 1) = wh P k ++ [(k : Int)] := by
    rw [wh_yes _ _ (by simp)]
    rw [wh_congr' (Q := P) fun i hi => by
      have : (i == k) = false := by simp; omega
      show (P i || i == k) = P i
      rw [this, Bool.or_false]]
  rw [e1, e2]
  generalize hT : (((List.range d).filter fun i => P (k + 1 + i)).map fun i => ((k + 1 + i : Nat) : Int)) = T
  have hB : ∀ x ∈ T, (k : Int) < x := fun x hx => by
    rw [← hT] at hx
    obtain ⟨i, _, rfl⟩ := List.mem_map.1 hx
    omega
  have hA : ∀ x ∈ wh P k, x < (k : Int) := fun x hx => wh_lt hx
  cases hp : P k with
  | true =>
    rw [wh_yes P k hp]
    unfold ins
    have ec : cnt (wh P k ++ [(k : Int)] ++ T) (k : Int) = (wh P k).length := by
      rw [List.append_assoc]
      exact cnt_app hA fun x hx => by
        simp only [List.cons_append, List.nil_append, List.mem_cons] at hx
        rcases hx with rfl | hx
        · omega
        · have := hB x hx; omega
    rw [ec, if_pos]
    refine ⟨by simp, ?_⟩
    simp [List.getD]
  | false =>
    rw [wh_no P k hp]
    unfold ins
    have ec : cnt (wh P k ++ T) (k : Int) = (wh P k).length := cnt_app hA fun x hx => by have := hB x hx; omega
    rw [ec, if_neg]
    · simp
    · rintro ⟨h1, h2⟩
      cases T with
      | nil => simp at h1
      | cons b T =>
        have := hB b (by simp)
        simp [List.getD] at h2
        omega
theorem ins_pos (l : List Int) (x : Int) : 0 < (ins l x).length := by
  unfold ins
  split
  · rename_i h; omega
  · simp; omega
/-- The values of a table, put together. -/
def imT (t : Nat → Int) : Nat → List Int
  | 0 => []
  | n + 1 => ins (imT t n) (t n)
theorem imT_eq {m : Nat} {t : Nat → Int} : ∀ n, (∀ i, i < n → El (m : Int) (t i)) → imT t n = wh (mt t n) m := by
  intro n
  induction n with
  | zero =>
    intro _
    have e : wh (mt t 0) m = wh (fun _ => false) m := wh_congr' fun i _ => rfl
    rw [e]
    show [] = _
    unfold wh
    simp
  | succ n ih =>
    intro ht
    obtain ⟨k, hk⟩ := Int.eq_ofNat_of_zero_le (ht n (by omega)).1
    have hkm : k < m := by have := (ht n (by omega)).2; omega
    show ins (imT t n) (t n) = _
    rw [ih fun i hi => ht i (by omega), hk, ins_wh _ hkm]
    refine wh_congr' fun y _ => ?_
    unfold mt
    rw [oc_succ t n k hk]
    have hb := oc_bd t n
    by_cases e : y = k
    · subst e
      rw [upd_at]
      have := (hb y).1
      have h1 : (0 : Int) < oc t n y + 1 := by omega
      simp [h1]
    · rw [upd_ne _ _ _ _ e]
      simp [e]
theorem imT_len {t : Nat → Int} : ∀ n, (imT t n).length ≤ n := by
  intro n
  induction n with
  | zero => exact Nat.le_refl _
  | succ n ih => have := ins_len (imT t n) (t n); show (ins (imT t n) (t n)).length ≤ _; omega
theorem imT_pos {t : Nat → Int} (n : Nat) (h : n ≠ 0) : 0 < (imT t n).length := by
  cases n with
  | zero => exact absurd rfl h
  | succ n => exact ins_pos _ _
theorem wh_cnt (P : Nat → Bool) : ∀ n, (wh P n).length = sg (fun y => if P y then 1 else 0) n := by
  intro n
  induction n with
  | zero => rfl
  | succ n ih =>
    show _ = sg (fun y => if P y then 1 else 0) n + if P n then 1 else 0
    rw [← ih]
    cases hp : P n with
    | true => rw [wh_yes P n hp]; simp
    | false => rw [wh_no P n hp]; simp
/-- The rank of an additive table. -/
theorem ad_rank' {m : Nat} {t : Nat → Int} (h : isSz (m : Int) = true) (ht : ∀ i, i < m → El m (t i)) (ha : adI m t = true) : ∃ r, r ≤ plN m ∧ (wh (mt t m) m).length = pp m r := by
  obtain ⟨r, hr, e⟩ := ad_rank h ht ha
  exact ⟨r, hr, (wh_cnt _ _).trans e⟩
theorem field_VB' (q : Int) (c : Nat → Int) (v : Value) (w : World) : (Instr.field 51 (.agg (VB q c v)) 0).run Try.prog w = .ok (.agg (VA q c)) w := by
  kernel_rfl
theorem ppf_mono {q : Int} (h : isSz q = true) {i r : Nat} (hi : i < r) : ppf q i < ppf q r := by
  have hp := pr_bd q h
  have : pp q i < pp q r := Nat.pow_lt_pow_right (by omega) hi
  show ((pp q i : Nat) : Int) < ((pp q r : Nat) : Int)
  omega
set_option maxRecDepth 100000 in
set_option maxHeartbeats 4000000 in
/-- spec.adImage. -/
theorem adImage_any (m : Nat) (v : Value) (t : Nat → Int) (w : World) (hm : 1 ≤ m ∧ m ≤ 16) (hv : Sl w v (fl t m)) (ht : ∀ i, i < m → El (m : Int) (t i)) :
    Calls Try.prog 30 #[v] w fun e w' => ∃ v', e = .returned v' ∧ Row w' w.heap.size v' (wh (mt t m) m) ∧ Below w.heap.size w w' := by
  obtain ⟨b, off, cap, rfl, hb, hcell⟩ := hv.open (n := m) (by rw [fl_len]) (by omega)
  have HC : Hid (∀ w', Below w.heap.size w w' → ∀ j, j < m → w'.cell? ⟨b, off + j, none⟩ = some (.int .i64 (t j))) := Lib.hid fun w' hbw j hj => by
    rw [hbw.cell (p := ⟨b, off + j, none⟩) hb, hcell j hj, fl_get _ _ _ hj]
  have HI := Lib.hid (imT_eq (t := t) m ht)
  have HLEN := Lib.hid (imT_len (t := t))
  have HPOS := Lib.hid (imT_pos (t := t))
  have HSS : Hid (∀ n, imT t (n + 1) = ins (imT t n) (t n)) := Lib.hid fun _ => rfl
  have HZ0 : Hid (imT t 0 = []) := Lib.hid rfl
  rw [← HI.out]
  clear hv hcell ht HI
  generalize imT t = I at *
  go_enter Try.func30, Try.ntmps30
  go_wp2_with fail
  go_loopw [3, 8] (fun vo vi wr => ∃ k : Nat, k ≤ m ∧ vi = .int .i64 k ∧ Row wr w.heap.size vo (I k) ∧ (k = 0 → vo = .slice none 0 0) ∧ Below w.heap.size w wr) (fun _ vi _ => m - (intOf vi).toNat)
  case atStart => exact ⟨0, Nat.zero_le _, rfl, by rw [HZ0.out]; exact Row.nil _ _, fun _ => rfl, Below.refl _ _⟩
  case round =>
    obtain ⟨k, hk, rfl, hr, hv0, hbw⟩ := hrel
    have hz := hbw.size
    have HL := Lib.hid (HLEN.out k)
    by_cases hlt : k < m
    · have hc0 := HC.out _ hbw k hlt
      have hbl : b < wr.heap.size := by omega
      have HBW := Lib.hid hbw; clear hbw
      have HS := Lib.hid (HSS.out k)
      by_cases h0 : k = 0
      · have hvv := hv0 h0
        subst hvv
        have HE : Hid (I k = []) := Lib.hid (by rw [h0]; exact HZ0.out)
        clear hr hv0 h0
        generalize t k = x at *
        go_wp2_with fail
        refine (l1Put_nil x _).mono ?_
        rintro e w3 ⟨v3, rfl, hr3, hb3⟩
        have hz_hb3 := hb3.size; (try simp at hz_hb3)
        have HR3 := Lib.hid hr3; clear hr3
        have HB3 := Lib.hid hb3; clear hb3
        go_wp2
        go_roundw
        case rel => exact ⟨k + 1, by omega, by go_num, by rw [HS.out, HE.out]; exact HR3.out.mono (by omega), by omega, HBW.out.trans (HB3.out.mono (by omega))⟩
        case measure => simp [intOf]; omega
      · have HP := Lib.hid (HPOS.out k h0)
        have HR := Lib.hid hr; clear hr hv0 h0
        generalize t k = x at *
        go_wp2_with fail
        refine (l1Put_any _ _ x w.heap.size _ HR.out HP.out (by have := HL.out; omega) (by omega)).mono ?_
        rintro e w3 ⟨v3, rfl, hr3, hb3⟩
        have hz_hb3 := hb3.size; (try simp at hz_hb3)
        have HR3 := Lib.hid hr3; clear hr3
        have HB3 := Lib.hid hb3; clear hb3
        go_wp2
        go_roundw
        case rel => exact ⟨k + 1, by omega, by go_num, by rw [HS.out]; exact HR3.out, by omega, HBW.out.trans (HB3.out.mono (by omega))⟩
        case measure => simp [intOf]; omega
    · obtain rfl : m = k := by omega
      have HR := Lib.hid hr; clear hr hv0
      have HBW := Lib.hid hbw; clear hbw
      go_wp2
      go_ret
      exact ⟨_, rfl, HR.out, HBW.out⟩
theorem spec_ImageOf_no (q : Int) (v : Value) (l : List Int) (w : World) (hv : Sl w v l) (hl : l.length ≤ 1048576) (hg : addL q l = false) :
    Calls Try.prog 15 #[.int .i64 q, v] w fun e w' => e = .returned (.tuple #[.slice none 0 0, .bool false]) ∧ Below w.heap.size w w' := by
  obtain ⟨_, HP⟩ : ∃ _ : Unit, Hid (Calls Try.prog 25 #[.int .i64 q, v] w fun e w' => ∃ v', e = .returned (.tuple #[v', .bool false]) ∧ Below w.heap.size w w') := ⟨(), Lib.hid (adTable_off q v l w hv hl hg)⟩
  clear hg hv hl
  go_enter Try.func15, Try.ntmps15
  go_wp2_with fail
  refine HP.out.mono ?_
  rintro e w1 ⟨v', rfl, hb1⟩
  go_wp2
  go_ret2
  exact ⟨rfl, hb1⟩
theorem impl_ImageOf_no (q : Int) (v : Value) (l : List Int) (w : World) (hv : Sl w v l) (hl : l.length ≤ 1048576) (hg : addL q l = false) :
    Calls Try.prog 16 #[.int .i64 q, v] w fun e w' => e = .returned (.tuple #[.slice none 0 0, .bool false]) ∧ Below w.heap.size w w' := by
  have HP := Lib.hid (validAdditive_no q v l w hv hl hg)
  clear hg hv hl
  go_enter Try.func16, Try.ntmps16
  go_wp2_with fail
  refine HP.out.mono ?_
  rintro e w1 ⟨rfl, hb1⟩
  have hz_hb1 := hb1.size; (try simp at hz_hb1)
  have HB1 := Lib.hid hb1; clear hb1
  go_wp2_with fail
  go_ret2
  have hb1 := HB1.out
  exact ⟨rfl, by (repeat' (first | (with_reducible assumption) | (with_reducible exact Below.refl _ _) | (with_reducible refine below_drewN ?_ _) | (with_reducible refine Below.drew ?_) | (with_reducible refine Below.alloc ?_ ?_ _) | (with_reducible refine Below.setCell ?_ ?_ _) | (with_reducible refine Below.trans ?_ (Below.mono (by assumption) ?_)) | (with_reducible exact Nat.le_refl _) | (with_reducible assumption) | omega | (simp; omega) | (simp; done)))⟩
set_option maxRecDepth 100000 in
set_option maxHeartbeats 4000000 in
theorem spec_ImageOf_yes (m : Nat) (v : Value) (l : List Int) (w : World) (h : isSz (m : Int) = true) (hv : Sl w v l) (hg : good (m : Int) l = true) (ha : adC m (fun i => l.getD i 0) 0 l.length = true) :
    Calls Try.prog 15 #[.int .i64 m, v] w fun e w' => ∃ v', e = .returned (.tuple #[v', .bool true]) ∧ Row w' w.heap.size v' (wh (mt (tabF (m : Int) (fun i => l.getD i 0) l.length) m) m) ∧ Below w.heap.size w w' := by
  have hq := isSz_le (m : Int) h
  have HP := Lib.hid (adTable_on m v l w h hv hg ha)
  have HTE := Lib.hid (fun i (hi : i < m) => tab_el (k := l.length) h (all_el h (good_parts hg).2) i hi)
  clear hg hv h ha
  generalize (tabF (m : Int) (fun i => l.getD i 0) l.length) = t at *
  have HA := Lib.hid (fun v w (hs : Sl w v (fl t m)) => adImage_any m v t w (by omega) hs (fun i hi => HTE.out i hi))
  clear HTE
  go_enter Try.func15, Try.ntmps15
  go_wp2_with fail
  refine HP.out.mono ?_
  rintro e w1 ⟨v1, rfl, hr1, hb1⟩
  have hz1 := hb1.size
  have HR1 := Lib.hid hr1
  have HB1 := Lib.hid hb1; clear hb1 hr1
  go_wp2_with fail
  refine (HA.out _ _ HR1.out.sl).mono ?_
  rintro e w2 ⟨v2, rfl, hr2, hb2⟩
  have HR2 := Lib.hid hr2
  have HB2 := Lib.hid hb2
  clear hr2 hb2
  go_wp2
  go_ret2
  exact ⟨_, rfl, HR2.out.mono hz1, HB1.out.trans (HB2.out.mono hz1)⟩
set_option maxRecDepth 100000 in
set_option maxHeartbeats 4000000 in
theorem impl_ImageOf_yes (m : Nat) (v : Value) (l : List Int) (w : World) (h : isSz (m : Int) = true) (hv : Sl w v l) (hg : good (m : Int) l = true) (ha : adC m (fun i => l.getD i 0) 0 l.length = true) :
    Calls Try.prog 16 #[.int .i64 m, v] w fun e w' => ∃ v', e = .returned (.tuple #[v', .bool true]) ∧ Row w' w.heap.size v' (wh (mt (tabF (m : Int) (fun i => l.getD i 0) l.length) m) m) ∧ Below w.heap.size w w' := by
  have hq := isSz_le (m : Int) h
  have hlen := (good_parts hg).1
  have HP := Lib.hid (validAdditive_yes m v l w h hv hg ha)
  have HT := Lib.hid (fun g w' (hgl : g < w'.heap.size) (he : Els w' g (m : Int) (fun i => l.getD i 0) l.length) => valueTableE m g l.length l.length (fun i => l.getD i 0) w' h hgl he (all_el h (good_parts hg).2) (by omega))
  have HFL := Lib.hid (fun a n j w => field_VB' (m : Int) (oc (tabF (m : Int) (fun i => l.getD i 0) l.length) m) (.slice a n j) w)
  have HLI := Lib.hid (fun w => listE m (oc (tabF (m : Int) (fun i => l.getD i 0) l.length) m) w h)
  have HIP : Hid (ps (oc (tabF (m : Int) (fun i => l.getD i 0) l.length) m) = mt (tabF (m : Int) (fun i => l.getD i 0) l.length) m) := Lib.hid rfl
  rw [HIP.out] at HLI
  clear hg hv h ha HIP
  generalize (tabF (m : Int) (fun i => l.getD i 0) l.length) = t at *
  generalize (fun i => l.getD i 0) = f at *
  generalize l.length = n at *
  generalize VA (m : Int) (oc t m) = AV at *
  have hfld := HFL.out
  go_enter Try.func16, Try.ntmps16
  go_wp2_with fail
  refine HP.out.mono ?_
  rintro e w1 ⟨g, rfl, hg, hgl, he, hb1⟩
  have HE1 := Lib.hid he
  clear he
  have hz_hb1 := hb1.size; (try simp at hz_hb1)
  have HB1 := Lib.hid hb1; clear hb1
  go_wp2_with fail
  refine (HT.out g _ (by simp; omega) (HE1.out.below (B := w1.heap.size) (by (repeat' (first | (with_reducible assumption) | (with_reducible exact Below.refl _ _) | (with_reducible refine below_drewN ?_ _) | (with_reducible refine Below.drew ?_) | (with_reducible refine Below.alloc ?_ ?_ _) | (with_reducible refine Below.setCell ?_ ?_ _) | (with_reducible refine Below.trans ?_ (Below.mono (by assumption) ?_)) | (with_reducible exact Nat.le_refl _) | (with_reducible assumption) | omega | (simp; omega) | (simp; done)))) hgl)).mono ?_
  rintro e w3 ⟨g3, rfl, hg3, hgl3, he3, hb3⟩
  clear he3
  have hz_hb3 := hb3.size; (try simp at hz_hb3)
  have HB3 := Lib.hid hb3; clear hb3
  go_wp2_with fail
  refine (HLI.out _).mono ?_
  rintro e w4 ⟨v4, rfl, hr4, hb4⟩
  have HR4 := Lib.hid hr4; clear hr4
  have HB4 := Lib.hid hb4; clear hb4
  go_wp2
  go_ret2
  have hb1 := HB1.out
  have hb3 := HB3.out
  have hb4 := HB4.out
  exact ⟨_, rfl, HR4.out.mono (by (try simp); omega), by (repeat' (first | (with_reducible assumption) | (with_reducible exact Below.refl _ _) | (with_reducible refine below_drewN ?_ _) | (with_reducible refine Below.drew ?_) | (with_reducible refine Below.alloc ?_ ?_ _) | (with_reducible refine Below.setCell ?_ ?_ _) | (with_reducible refine Below.trans ?_ (Below.mono (by assumption) ?_)) | (with_reducible exact Nat.le_refl _) | (with_reducible assumption) | omega | (simp; omega) | (simp; done)))⟩
theorem key_ImageOf (q : Int) (l_f : List Int) (b_f : l_f.length ≤ 1048576) : ∃ (r : List Int) (o : Bool), r.length ≤ 1048576 ∧ (∀ (w : World) (v_f : Value) (_ : Sl w v_f l_f), Calls Try.prog 15 #[.int .i64 q, v_f] w fun e w' => ∃ v, e = .returned (.tuple #[v, .bool o]) ∧ Row w' w.heap.size v r ∧ Below w.heap.size w w') ∧
      (∀ (w : World) (v_f : Value) (_ : Sl w v_f l_f), Calls Try.prog 16 #[.int .i64 q, v_f] w fun e w' => ∃ v, e = .returned (.tuple #[v, .bool o]) ∧ Row w' w.heap.size v r ∧ Below w.heap.size w w') := by
  cases h : addL q l_f with
  | false => exact ⟨[], false, by simp, fun w v hv => (spec_ImageOf_no q v l_f w hv b_f h).mono (by rintro e w' ⟨rfl, hb⟩; exact ⟨_, rfl, Row.nil _ _, hb⟩), fun w v hv => (impl_ImageOf_no q v l_f w hv b_f h).mono (by rintro e w' ⟨rfl, hb⟩; exact ⟨_, rfl, Row.nil _ _, hb⟩)⟩
  | true =>
    obtain ⟨m, rfl, h1, h2, h3⟩ := addL_parts h
    have hq := isSz_le _ h1
    exact ⟨_, true, Nat.le_trans (wh_len _ _) (by omega), fun w v hv => spec_ImageOf_yes m v l_f w h1 hv h2 h3, fun w v hv => impl_ImageOf_yes m v l_f w h1 hv h2 h3⟩
set_option maxRecDepth 100000 in
set_option maxHeartbeats 4000000 in
/-- laws.FnExactImageOf. -/
theorem walk_FnExactImageOf (q : Int) (a_f : Option Addr) (n_f c_f : Nat) (z_f : List Int) (w : World) (_h_q : (Lit.int .i64 q).wf = true) (h_f : IsRow .i64 w a_f n_f c_f z_f) :
    Calls Try.prog 4 #[.int .i64 q, .slice a_f n_f c_f] w fun e w' => e = .returned (.bool true) ∧ Below w.heap.size w w' := by
  clear _h_q
  obtain ⟨hs_f, hl_f, _⟩ := h_f.sl
  generalize z_f.take n_f = l_f at *
  clear h_f
  subst hl_f
  by_cases b_f : l_f.length ≤ 1048576
  rotate_left
  · have hn_f : (1048576 : Int) < (l_f.length : Int) := by omega
    go_enter Try.func4, Try.ntmps4
    go_wp2
    go_ret
    exact ⟨rfl, Below.refl _ _⟩
  have hn_f : ¬ (1048576 : Int) < (l_f.length : Int) := by omega
  obtain ⟨r, o, hr, k1, k2⟩ := key_ImageOf q l_f b_f
  have K1 := Lib.hid k1; clear k1
  have K2 := Lib.hid k2; clear k2
  have HS_f := Lib.hid hs_f; clear hs_f
  have HB0 : Hid (Below w.heap.size w w) := Lib.hid (Below.refl _ _)
  go_enter Try.func4, Try.ntmps4
  go_wp2_with fail
  refine (toIntS_any _ l_f _ (HS_f.out.below HB0.out (Nat.le_refl _)) b_f).mono ?_
  rintro e w1 ⟨v_s_f, rfl, hrw1, hbw1⟩
  have hzw1 : w.heap.size ≤ w1.heap.size := hbw1.size
  have HBw1 : Hid (Below w.heap.size w w1) := Lib.hid (HB0.out.trans (hbw1.mono HB0.out.size))
  have hww1 := HBw1.out.size
  clear hbw1 HB0
  have R_s_f_w1 := Lib.hid hrw1; clear hrw1
  have lt_s_f : Hid (∀ g, v_s_f.ownBlock = some g → w.heap.size ≤ g ∧ g < w1.heap.size) := Lib.hid R_s_f_w1.out.lt
  go_wp2_with fail
  refine (K1.out _ v_s_f R_s_f_w1.out.sl).mono ?_
  rintro e w2 ⟨v_sp, rfl, hrw2, hbw2⟩
  have hzw2 : w1.heap.size ≤ w2.heap.size := hbw2.size
  have R_s_f_w2 := Lib.hid (R_s_f_w1.out.below hbw2)
  clear R_s_f_w1
  have HBw2 : Hid (Below w.heap.size w w2) := Lib.hid (HBw1.out.trans (hbw2.mono HBw1.out.size))
  have hww2 := HBw2.out.size
  clear hbw2 HBw1
  have R_sp_w2 := Lib.hid hrw2; clear hrw2
  have lt_sp : Hid (∀ g, v_sp.ownBlock = some g → w1.heap.size ≤ g ∧ g < w2.heap.size) := Lib.hid R_sp_w2.out.lt
  clear R_s_f_w2 lt_s_f
  go_wp2_with fail
  refine (toIntS_any _ l_f _ (HS_f.out.below HBw2.out (Nat.le_refl _)) b_f).mono ?_
  rintro e w3 ⟨v_x_f, rfl, hrw3, hbw3⟩
  have hzw3 : w2.heap.size ≤ w3.heap.size := hbw3.size
  have R_sp_w3 := Lib.hid (R_sp_w2.out.below hbw3)
  clear R_sp_w2
  have HBw3 : Hid (Below w.heap.size w w3) := Lib.hid (HBw2.out.trans (hbw3.mono HBw2.out.size))
  have hww3 := HBw3.out.size
  clear hbw3 HBw2
  have R_x_f_w3 := Lib.hid hrw3; clear hrw3
  have lt_x_f : Hid (∀ g, v_x_f.ownBlock = some g → w2.heap.size ≤ g ∧ g < w3.heap.size) := Lib.hid R_x_f_w3.out.lt
  go_wp2_with fail
  refine (K2.out _ v_x_f R_x_f_w3.out.sl).mono ?_
  rintro e w4 ⟨v_im, rfl, hrw4, hbw4⟩
  have hzw4 : w3.heap.size ≤ w4.heap.size := hbw4.size
  have R_sp_w4 := Lib.hid (R_sp_w3.out.below hbw4)
  clear R_sp_w3
  have R_x_f_w4 := Lib.hid (R_x_f_w3.out.below hbw4)
  clear R_x_f_w3
  have HBw4 : Hid (Below w.heap.size w w4) := Lib.hid (HBw3.out.trans (hbw4.mono HBw3.out.size))
  have hww4 := HBw4.out.size
  clear hbw4 HBw3
  have R_im_w4 := Lib.hid hrw4; clear hrw4
  have lt_im : Hid (∀ g, v_im.ownBlock = some g → w3.heap.size ≤ g ∧ g < w4.heap.size) := Lib.hid R_im_w4.out.lt
  go_wp2_with fail
  refine (eq_same v_im v_sp r _ _ _ R_im_w4.out R_sp_w4.out (by omega)).mono ?_
  rintro e w5 ⟨rfl, hbw5⟩
  have hzw5 : w4.heap.size ≤ w5.heap.size := hbw5.size
  have R_sp_w5 := Lib.hid (R_sp_w4.out.below hbw5)
  clear R_sp_w4
  have R_x_f_w5 := Lib.hid (R_x_f_w4.out.below hbw5)
  clear R_x_f_w4
  have R_im_w5 := Lib.hid (R_im_w4.out.below hbw5)
  clear R_im_w4
  have HBw5 : Hid (Below w.heap.size w w5) := Lib.hid (HBw4.out.trans (hbw5.mono HBw4.out.size))
  have hww5 := HBw5.out.size
  clear hbw5 HBw4
  go_wp2_with fail
  refine (toIntS_any _ l_f _ (HS_f.out.below HBw5.out (Nat.le_refl _)) b_f).mono ?_
  rintro e w6 ⟨v_y_f, rfl, hrw6, hbw6⟩
  have hzw6 : w5.heap.size ≤ w6.heap.size := hbw6.size
  have R_sp_w6 := Lib.hid (R_sp_w5.out.below hbw6)
  clear R_sp_w5
  have R_x_f_w6 := Lib.hid (R_x_f_w5.out.below hbw6)
  clear R_x_f_w5
  have R_im_w6 := Lib.hid (R_im_w5.out.below hbw6)
  clear R_im_w5
  have HBw6 : Hid (Below w.heap.size w w6) := Lib.hid (HBw5.out.trans (hbw6.mono HBw5.out.size))
  have hww6 := HBw6.out.size
  clear hbw6 HBw5
  have R_y_f_w6 := Lib.hid hrw6; clear hrw6
  have lt_y_f : Hid (∀ g, v_y_f.ownBlock = some g → w5.heap.size ≤ g ∧ g < w6.heap.size) := Lib.hid R_y_f_w6.out.lt
  go_wp2_with fail
  refine (eq_same v_x_f v_y_f l_f _ _ _ R_x_f_w6.out R_y_f_w6.out (by omega)).mono ?_
  rintro e w7 ⟨rfl, hbw7⟩
  have hzw7 : w6.heap.size ≤ w7.heap.size := hbw7.size
  have R_sp_w7 := Lib.hid (R_sp_w6.out.below hbw7)
  clear R_sp_w6
  have R_x_f_w7 := Lib.hid (R_x_f_w6.out.below hbw7)
  clear R_x_f_w6
  have R_im_w7 := Lib.hid (R_im_w6.out.below hbw7)
  clear R_im_w6
  have R_y_f_w7 := Lib.hid (R_y_f_w6.out.below hbw7)
  clear R_y_f_w6
  have HBw7 : Hid (Below w.heap.size w w7) := Lib.hid (HBw6.out.trans (hbw7.mono HBw6.out.size))
  have hww7 := HBw7.out.size
  clear hbw7 HBw6
  clear R_y_f_w7 lt_y_f
  go_wp2_with fail
  refine (mark_any v_x_f l_f _ (1) _ R_x_f_w7.out (by omega) (by omega) (by omega)).mono ?_
  rintro e w8 ⟨rfl, hrw8, hgw8⟩
  have hzw8 : w7.heap.size ≤ w8.heap.size := hgw8.size
  have R_sp_w8 := Lib.hid (R_sp_w7.out.keep (w' := w8) fun g hg => hgw8.block g (R_sp_w7.out.lt g hg).2 fun e => by have h1 := lt_sp.out g hg; have h2 := lt_x_f.out g e.symm; omega)
  clear R_sp_w7
  have R_im_w8 := Lib.hid (R_im_w7.out.keep (w' := w8) fun g hg => hgw8.block g (R_im_w7.out.lt g hg).2 fun e => by have h1 := lt_im.out g hg; have h2 := lt_x_f.out g e.symm; omega)
  clear R_im_w7
  have HBw8 : Hid (Below w.heap.size w w8) := Lib.hid (Below.grown HBw7.out hgw8 (by omega) (fun g e => by have h2 := lt_x_f.out g e; omega))
  have hww8 := HBw8.out.size
  have R_x_f_w8 := Lib.hid hrw8
  clear hrw8 hgw8 HBw7 R_x_f_w7
  clear R_x_f_w8 lt_x_f
  have hpos : ¬ (1 + (l_f.length : Int)) < (0 : Int) := by omega
  go_wp2_with fail
  refine (eq_same v_im v_sp r _ _ _ R_im_w8.out R_sp_w8.out (by omega)).mono ?_
  rintro e w9 ⟨rfl, hbw9⟩
  have hzw9 : w8.heap.size ≤ w9.heap.size := hbw9.size
  have R_sp_w9 := Lib.hid (R_sp_w8.out.below hbw9)
  clear R_sp_w8
  have R_im_w9 := Lib.hid (R_im_w8.out.below hbw9)
  clear R_im_w8
  have HBw9 : Hid (Below w.heap.size w w9) := Lib.hid (HBw8.out.trans (hbw9.mono HBw8.out.size))
  have hww9 := HBw9.out.size
  clear hbw9 HBw8
  go_wp2_with fail
  refine (mark_any v_im r _ (1) _ R_im_w9.out (by omega) (by omega) (by omega)).mono ?_
  rintro e w10 ⟨rfl, hrw10, hgw10⟩
  have hzw10 : w9.heap.size ≤ w10.heap.size := hgw10.size
  have R_sp_w10 := Lib.hid (R_sp_w9.out.keep (w' := w10) fun g hg => hgw10.block g (R_sp_w9.out.lt g hg).2 fun e => by have h1 := lt_sp.out g hg; have h2 := lt_im.out g e.symm; omega)
  clear R_sp_w9
  have HBw10 : Hid (Below w.heap.size w w10) := Lib.hid (Below.grown HBw9.out hgw10 (by omega) (fun g e => by have h2 := lt_im.out g e; omega))
  have hww10 := HBw10.out.size
  have R_im_w10 := Lib.hid hrw10
  clear hrw10 hgw10 HBw9 R_im_w9
  go_wp2_with fail
  refine (held_any v_im r.length _ (1) _ R_im_w10.out (by omega) (by omega) (by omega)).mono ?_
  rintro e wx1 ⟨rfl, rfl⟩
  go_wp2_with fail
  refine (toIntS_any _ l_f _ (HS_f.out.below HBw10.out (Nat.le_refl _)) b_f).mono ?_
  rintro e w11 ⟨v_t_f, rfl, hrw11, hbw11⟩
  have hzw11 : w10.heap.size ≤ w11.heap.size := hbw11.size
  have R_sp_w11 := Lib.hid (R_sp_w10.out.below hbw11)
  clear R_sp_w10
  have R_im_w11 := Lib.hid (R_im_w10.out.below hbw11)
  clear R_im_w10
  have HBw11 : Hid (Below w.heap.size w w11) := Lib.hid (HBw10.out.trans (hbw11.mono HBw10.out.size))
  have hww11 := HBw11.out.size
  clear hbw11 HBw10
  have R_t_f_w11 := Lib.hid hrw11; clear hrw11
  have lt_t_f : Hid (∀ g, v_t_f.ownBlock = some g → w10.heap.size ≤ g ∧ g < w11.heap.size) := Lib.hid R_t_f_w11.out.lt
  go_wp2_with fail
  refine (K2.out _ v_t_f R_t_f_w11.out.sl).mono ?_
  rintro e w12 ⟨v_im2, rfl, hrw12, hbw12⟩
  have hzw12 : w11.heap.size ≤ w12.heap.size := hbw12.size
  have R_sp_w12 := Lib.hid (R_sp_w11.out.below hbw12)
  clear R_sp_w11
  have R_im_w12 := Lib.hid (R_im_w11.out.below hbw12)
  clear R_im_w11
  have R_t_f_w12 := Lib.hid (R_t_f_w11.out.below hbw12)
  clear R_t_f_w11
  have HBw12 : Hid (Below w.heap.size w w12) := Lib.hid (HBw11.out.trans (hbw12.mono HBw11.out.size))
  have hww12 := HBw12.out.size
  clear hbw12 HBw11
  have R_im2_w12 := Lib.hid hrw12; clear hrw12
  have lt_im2 : Hid (∀ g, v_im2.ownBlock = some g → w11.heap.size ≤ g ∧ g < w12.heap.size) := Lib.hid R_im2_w12.out.lt
  clear R_t_f_w12 lt_t_f
  go_wp2_with fail
  refine (eq_same v_im2 v_sp r _ _ _ R_im2_w12.out R_sp_w12.out (by omega)).mono ?_
  rintro e w13 ⟨rfl, hbw13⟩
  have hzw13 : w12.heap.size ≤ w13.heap.size := hbw13.size
  have R_sp_w13 := Lib.hid (R_sp_w12.out.below hbw13)
  clear R_sp_w12
  have R_im_w13 := Lib.hid (R_im_w12.out.below hbw13)
  clear R_im_w12
  have R_im2_w13 := Lib.hid (R_im2_w12.out.below hbw13)
  clear R_im2_w12
  have HBw13 : Hid (Below w.heap.size w w13) := Lib.hid (HBw12.out.trans (hbw13.mono HBw12.out.size))
  have hww13 := HBw13.out.size
  clear hbw13 HBw12
  go_wp2_with fail
  refine (held_any v_im r.length _ (1) _ R_im_w13.out (by omega) (by omega) (by omega)).mono ?_
  rintro e wx2 ⟨rfl, rfl⟩
  go_wp2
  go_ret
  exact ⟨rfl, HBw13.out⟩
theorem spec_RankOf_no (q : Int) (v : Value) (l : List Int) (w : World) (hv : Sl w v l) (hl : l.length ≤ 1048576) (hg : addL q l = false) :
    Calls Try.prog 17 #[.int .i64 q, v] w fun e w' => e = .returned (.tuple #[.int .i64 0, .bool false]) ∧ Below w.heap.size w w' := by
  obtain ⟨_, HP⟩ : ∃ _ : Unit, Hid (Calls Try.prog 25 #[.int .i64 q, v] w fun e w' => ∃ v', e = .returned (.tuple #[v', .bool false]) ∧ Below w.heap.size w w') := ⟨(), Lib.hid (adTable_off q v l w hv hl hg)⟩
  clear hg hv hl
  go_enter Try.func17, Try.ntmps17
  go_wp2_with fail
  refine HP.out.mono ?_
  rintro e w1 ⟨v', rfl, hb1⟩
  go_wp2
  go_ret2
  exact ⟨rfl, hb1⟩
theorem impl_RankOf_no (q : Int) (v : Value) (l : List Int) (w : World) (hv : Sl w v l) (hl : l.length ≤ 1048576) (hg : addL q l = false) :
    Calls Try.prog 18 #[.int .i64 q, v] w fun e w' => e = .returned (.tuple #[.int .i64 0, .bool false]) ∧ Below w.heap.size w w' := by
  have HP := Lib.hid (validAdditive_no q v l w hv hl hg)
  clear hg hv hl
  go_enter Try.func18, Try.ntmps18
  go_wp2_with fail
  refine HP.out.mono ?_
  rintro e w1 ⟨rfl, hb1⟩
  have hz_hb1 := hb1.size; (try simp at hz_hb1)
  have HB1 := Lib.hid hb1; clear hb1
  go_wp2_with fail
  go_ret2
  have hb1 := HB1.out
  exact ⟨rfl, by (repeat' (first | (with_reducible assumption) | (with_reducible exact Below.refl _ _) | (with_reducible refine below_drewN ?_ _) | (with_reducible refine Below.drew ?_) | (with_reducible refine Below.alloc ?_ ?_ _) | (with_reducible refine Below.setCell ?_ ?_ _) | (with_reducible refine Below.trans ?_ (Below.mono (by assumption) ?_)) | (with_reducible exact Nat.le_refl _) | (with_reducible assumption) | omega | (simp; omega) | (simp; done)))⟩
set_option maxRecDepth 100000 in
set_option maxHeartbeats 4000000 in
theorem spec_RankOf_yes (m : Nat) (v : Value) (l : List Int) (w : World) (h : isSz (m : Int) = true) (hv : Sl w v l) (hg : good (m : Int) l = true) (ha : adC m (fun i => l.getD i 0) 0 l.length = true) (r : Nat) (hr : r ≤ plN m) (hw : (wh (mt (tabF (m : Int) (fun i => l.getD i 0) l.length) m) m).length = pp m r) :
    Calls Try.prog 17 #[.int .i64 m, v] w fun e w' => e = .returned (.tuple #[.int .i64 r, .bool true]) ∧ Below w.heap.size w w' := by
  have hq := isSz_le (m : Int) h
  have hkb := plN_bd (m : Int) h
  have hp := pr_bd (m : Int) h
  have HP := Lib.hid (adTable_on m v l w h hv hg ha)
  have HTE := Lib.hid (fun i (hi : i < m) => tab_el (k := l.length) h (all_el h (good_parts hg).2) i hi)
  have HPR := Lib.hid (fun w => fdPrime_any (m : Int) w h)
  have HS := Lib.hid (ppf_succ h)
  have HB := Lib.hid (ppf_bd h)
  have HMO := Lib.hid (fun i (hi : 0 < i) => ppf_mono h (i := 0) (r := i) hi)
  have hp1 : ppf (m : Int) 0 = 1 := by show ((1 : Nat) : Int) = 1; rfl
  clear hg hv h ha
  generalize (tabF (m : Int) (fun i => l.getD i 0) l.length) = t at *
  have HA := Lib.hid (fun v w (hs : Sl w v (fl t m)) => adImage_any m v t w (by omega) hs (fun i hi => HTE.out i hi))
  have HW : Hid (((wh (mt t m) m).length : Int) = ppf (m : Int) r) := Lib.hid (by rw [hw]; rfl)
  clear HTE hw
  generalize wh (mt t m) m = L at *
  generalize ppf (m : Int) = F at *
  go_enter Try.func17, Try.ntmps17
  go_wp2_with fail
  refine HP.out.mono ?_
  rintro e w1 ⟨v1, rfl, hr1, hb1⟩
  have hz1 := hb1.size
  have HR1 := Lib.hid hr1
  have HB1 := Lib.hid hb1; clear hb1 hr1
  go_wp2_with fail
  refine (HPR.out _).mono ?_
  rintro e _ ⟨rfl, rfl⟩
  go_wp2_with fail
  refine (HA.out _ _ HR1.out.sl).mono ?_
  rintro e w2 ⟨v2, rfl, hr2, hb2⟩
  obtain ⟨a2, cap2, rfl⟩ := hr2.sl.form
  have HB2 : Hid (Below w.heap.size w w2) := Lib.hid (HB1.out.trans (hb2.mono hz1))
  clear hr2 hb2
  have hW := HW.out
  go_wp2_with fail
  go_loopw [10, 11] (fun vr vn wr => ∃ i : Nat, i ≤ r ∧ vr = .int .i64 i ∧ vn = .int .i64 (F (r - i)) ∧ wr = w2) (fun vr _ _ => r - (intOf vr).toNat)
  case atStart => exact ⟨0, Nat.zero_le _, rfl, by first | rfl | rw [hW] | (simp only [hW]; rfl), rfl⟩
  case round =>
    obtain ⟨i, hi, rfl, rfl, rfl⟩ := hrel
    by_cases hlt : i < r
    · have b1 := HB.out (r - i) (by omega)
      have b2 := HB.out (r - (i + 1)) (by omega)
      have s1 := HS.out (r - (i + 1))
      rw [show r - (i + 1) + 1 = r - i by omega] at s1
      have m1 := HMO.out (r - i) (by omega)
      rw [hp1] at m1
      clear hW
      obtain ⟨y, hy⟩ : ∃ y, F (r - (i + 1)) = y := ⟨_, rfl⟩
      rw [hy] at s1 b2
      have HY := Lib.hid hy; clear hy
      generalize F (r - i) = x at *
      have hdiv : x.tdiv (pr m) = y := by rw [← s1]; exact Int.mul_tdiv_cancel _ (by omega)
      have hne : ¬ pr m = 0 := by omega
      have h1 : IntKind.i64.wrap y = y := IntWalk.i64_in _ (by omega)
      clear s1
      go_wp2
      go_roundw
      case rel => exact ⟨i + 1, by omega, by go_num, by rw [HY.out], by first | rfl | trivial⟩
      case measure => simp [intOf]; omega
    · obtain rfl : r = i := by omega
      rw [Nat.sub_self, hp1]
      clear hW
      go_wp2
      go_ret2
      exact ⟨rfl, HB2.out⟩
set_option maxRecDepth 100000 in
set_option maxHeartbeats 4000000 in
/-- impl.poly.rank. -/
theorem rankE (m n r : Nat) (v : Value) (f : Nat → Int) (w : World) (h : isSz (m : Int) = true) (hv : Se w v (m : Int) f n) (hf : ∀ i, El (m : Int) (f i)) (hn : n ≤ 1000) (hr : r ≤ plN m) (hw : (wh (mt (tabF (m : Int) f n) m) m).length = pp m r) :
    Calls Try.prog 34 #[polyE (m : Int) v] w fun e w' => e = .returned (.int .i64 r) ∧ Below w.heap.size w w' := by
  have hq := isSz_le (m : Int) h
  have hkb := plN_bd (m : Int) h
  have hp := pr_bd (m : Int) h
  obtain ⟨g, cap, rfl, hgl, he⟩ := hv
  have HE1 := Lib.hid he
  have HT := Lib.hid (fun w' (hgl : g < w'.heap.size) (he : Els w' g (m : Int) f n) => valueTableE m g n cap f w' h hgl he hf hn)
  have HFL := Lib.hid (fun a n' j w => field_VB' (m : Int) (oc (tabF (m : Int) f n) m) (.slice a n' j) w)
  have HD := Lib.hid (fun w => differentE m (oc (tabF (m : Int) f n) m) w h)
  have HIP : Hid (ps (oc (tabF (m : Int) f n) m) = mt (tabF (m : Int) f n) m) := Lib.hid rfl
  rw [HIP.out, hw] at HD
  have HS := Lib.hid (ppf_succ h)
  have HB := Lib.hid (ppf_bd h)
  have HMO := Lib.hid (fun i (hi : i < r) => ppf_mono h (i := i) (r := r) hi)
  have hp1 : ppf (m : Int) 0 = 1 := by show ((1 : Nat) : Int) = 1; rfl
  have hpr : ((pp (m : Int) r : Nat) : Int) = ppf (m : Int) r := rfl
  rw [hpr] at HD
  clear h he hf HIP hw hpr
  generalize tabF (m : Int) f n = t at *
  generalize VA (m : Int) (oc t m) = AV at *
  generalize ppf (m : Int) = F at *
  have hfld := HFL.out
  go_enter Try.func34, Try.ntmps34
  go_wp2_with fail
  refine (HT.out _ (by simp; omega) (HE1.out.below (B := w.heap.size) (by (repeat' (first | (with_reducible assumption) | (with_reducible exact Below.refl _ _) | (with_reducible refine below_drewN ?_ _) | (with_reducible refine Below.drew ?_) | (with_reducible refine Below.alloc ?_ ?_ _) | (with_reducible refine Below.setCell ?_ ?_ _) | (with_reducible refine Below.trans ?_ (Below.mono (by assumption) ?_)) | (with_reducible exact Nat.le_refl _) | (with_reducible assumption) | omega | (simp; omega) | (simp; done)))) hgl)).mono ?_
  rintro e w3 ⟨g3, rfl, hg3, hgl3, he3, hb3⟩
  clear he3
  have HPB : Hid (∀ w', Below w3.heap.size w3 w' → w'.heap[w.heap.size]? = some (pblk (m : Int) (.slice (some ⟨g, 0, none⟩) n cap))) := Lib.hid fun w' hb => (hb.block _ (by have := hb3.size; simp at this; omega)).trans ((hb3.block _ (by simp)).trans (heap_alloc_new w _))
  have hz_hb3 := hb3.size; (try simp at hz_hb3)
  have HB3 : Hid (Below w.heap.size w w3) := Lib.hid (by (repeat' (first | (with_reducible assumption) | (with_reducible exact Below.refl _ _) | (with_reducible refine below_drewN ?_ _) | (with_reducible refine Below.drew ?_) | (with_reducible refine Below.alloc ?_ ?_ _) | (with_reducible refine Below.setCell ?_ ?_ _) | (with_reducible refine Below.trans ?_ (Below.mono (by assumption) ?_)) | (with_reducible exact Nat.le_refl _) | (with_reducible assumption) | omega | (simp; omega) | (simp; done))))
  clear hb3
  go_wp2_with fail
  refine (HD.out _).mono ?_
  rintro e w4 ⟨rfl, hb4⟩
  have HP4 := Lib.hid (HPB.out _ hb4)
  have HB4 : Hid (Below w.heap.size w w4) := Lib.hid (HB3.out.trans (hb4.mono HB3.out.size))
  clear hb4 HPB
  clear hfld
  go_wp2_with fail
  go_loopw [4, 5] (fun vr vc wr => ∃ i : Nat, i ≤ r ∧ vr = .int .i64 i ∧ vc = .int .i64 (F i) ∧ wr = w4) (fun vr _ _ => r - (intOf vr).toNat)
  case atStart => exact ⟨0, Nat.zero_le _, rfl, by rw [hp1], rfl⟩
  case round =>
    obtain ⟨i, hi, rfl, rfl, rfl⟩ := hrel
    by_cases hlt : i < r
    · have b1 := HB.out i (by omega)
      have b2 := HB.out (i + 1) (by omega)
      have s1 := HS.out i
      have m1 := HMO.out i hlt
      obtain ⟨x0, x1, x2, x3, _⟩ := cells4 HP4.out
      obtain ⟨y, hy⟩ : ∃ y, F (i + 1) = y := ⟨_, rfl⟩
      rw [hy] at s1 b2
      have HY := Lib.hid hy; clear hy
      generalize F i = x at *
      have h1 : IntKind.i64.wrap y = y := IntWalk.i64_in _ (by omega)
      go_wp2
      go_roundw
      case rel => exact ⟨i + 1, by omega, by go_num, by rw [HY.out], by first | rfl | trivial⟩
      case measure => simp [intOf]; omega
    · obtain rfl : r = i := by omega
      have hnl : ¬ F r < F r := Int.lt_irrefl _
      go_wp2
      go_ret
      exact ⟨rfl, HB4.out⟩
set_option maxRecDepth 100000 in
set_option maxHeartbeats 4000000 in
theorem impl_RankOf_yes (m : Nat) (v : Value) (l : List Int) (w : World) (h : isSz (m : Int) = true) (hv : Sl w v l) (hg : good (m : Int) l = true) (ha : adC m (fun i => l.getD i 0) 0 l.length = true) (r : Nat) (hr : r ≤ plN m) (hw : (wh (mt (tabF (m : Int) (fun i => l.getD i 0) l.length) m) m).length = pp m r) :
    Calls Try.prog 18 #[.int .i64 m, v] w fun e w' => e = .returned (.tuple #[.int .i64 r, .bool true]) ∧ Below w.heap.size w w' := by
  have hq := isSz_le (m : Int) h
  have hlen := (good_parts hg).1
  have HP := Lib.hid (validAdditive_yes m v l w h hv hg ha)
  have HS := Lib.hid (fun v w (hs : Se w v (m : Int) (fun i => l.getD i 0) l.length) => rankE m l.length r v (fun i => l.getD i 0) w h hs (all_el h (good_parts hg).2) (by omega) hr hw)
  clear hg hv h ha hw
  generalize (fun i => l.getD i 0) = f at *
  generalize l.length = n at *
  go_enter Try.func18, Try.ntmps18
  go_wp2_with fail
  refine HP.out.mono ?_
  rintro e w1 ⟨g, rfl, hg, hgl, he, hb1⟩
  have HE1 := Lib.hid he
  clear he
  have hz_hb1 := hb1.size; (try simp at hz_hb1)
  have HB1 := Lib.hid hb1; clear hb1
  go_wp2_with fail
  refine (HS.out (.slice (some ⟨g, 0, none⟩) n n) _ ⟨g, n, rfl, by simp; omega, HE1.out.below (B := w1.heap.size) (by (repeat' (first | (with_reducible assumption) | (with_reducible exact Below.refl _ _) | (with_reducible refine below_drewN ?_ _) | (with_reducible refine Below.drew ?_) | (with_reducible refine Below.alloc ?_ ?_ _) | (with_reducible refine Below.setCell ?_ ?_ _) | (with_reducible refine Below.trans ?_ (Below.mono (by assumption) ?_)) | (with_reducible exact Nat.le_refl _) | (with_reducible assumption) | omega | (simp; omega) | (simp; done)))) hgl⟩).mono ?_
  rintro e w2 ⟨rfl, hb2⟩
  have HB2 := Lib.hid hb2; clear hb2
  go_wp2
  go_ret2
  have hb1 := HB1.out
  have hb2 := HB2.out
  exact ⟨rfl, by (repeat' (first | (with_reducible assumption) | (with_reducible exact Below.refl _ _) | (with_reducible refine below_drewN ?_ _) | (with_reducible refine Below.drew ?_) | (with_reducible refine Below.alloc ?_ ?_ _) | (with_reducible refine Below.setCell ?_ ?_ _) | (with_reducible refine Below.trans ?_ (Below.mono (by assumption) ?_)) | (with_reducible exact Nat.le_refl _) | (with_reducible assumption) | omega | (simp; omega) | (simp; done)))⟩
theorem key_RankOf (q : Int) (l_f : List Int) (b_f : l_f.length ≤ 1048576) : ∃ (r : Int) (o : Bool), (∀ (w : World) (v_f : Value) (_ : Sl w v_f l_f), Calls Try.prog 17 #[.int .i64 q, v_f] w fun e w' => e = .returned (.tuple #[.int .i64 r, .bool o]) ∧ Below w.heap.size w w') ∧
      (∀ (w : World) (v_f : Value) (_ : Sl w v_f l_f), Calls Try.prog 18 #[.int .i64 q, v_f] w fun e w' => e = .returned (.tuple #[.int .i64 r, .bool o]) ∧ Below w.heap.size w w') := by
  cases h : addL q l_f with
  | false => exact ⟨0, false, fun w v hv => spec_RankOf_no q v l_f w hv b_f h, fun w v hv => impl_RankOf_no q v l_f w hv b_f h⟩
  | true =>
    obtain ⟨m, rfl, h1, h2, h3⟩ := addL_parts h
    have hq := isSz_le _ h1
    obtain ⟨r, hr, hw⟩ := ad_rank' h1 (fun i hi => tab_el (k := l_f.length) h1 (all_el h1 (good_parts h2).2) i hi) (by rw [ad_list h1 h2]; exact h3)
    exact ⟨(r : Int), true, fun w v hv => spec_RankOf_yes m v l_f w h1 hv h2 h3 r hr hw, fun w v hv => impl_RankOf_yes m v l_f w h1 hv h2 h3 r hr hw⟩
set_option maxRecDepth 100000 in
set_option maxHeartbeats 4000000 in
/-- laws.FnExactRankOf. -/
theorem walk_FnExactRankOf (q : Int) (a_f : Option Addr) (n_f c_f : Nat) (z_f : List Int) (w : World) (_h_q : (Lit.int .i64 q).wf = true) (h_f : IsRow .i64 w a_f n_f c_f z_f) :
    Calls Try.prog 5 #[.int .i64 q, .slice a_f n_f c_f] w fun e w' => e = .returned (.bool true) ∧ Below w.heap.size w w' := by
  clear _h_q
  obtain ⟨hs_f, hl_f, _⟩ := h_f.sl
  generalize z_f.take n_f = l_f at *
  clear h_f
  subst hl_f
  by_cases b_f : l_f.length ≤ 1048576
  rotate_left
  · have hn_f : (1048576 : Int) < (l_f.length : Int) := by omega
    go_enter Try.func5, Try.ntmps5
    go_wp2
    go_ret
    exact ⟨rfl, Below.refl _ _⟩
  have hn_f : ¬ (1048576 : Int) < (l_f.length : Int) := by omega
  obtain ⟨r, o, k1, k2⟩ := key_RankOf q l_f b_f
  have K1 := Lib.hid k1; clear k1
  have K2 := Lib.hid k2; clear k2
  have HS_f := Lib.hid hs_f; clear hs_f
  have HB0 : Hid (Below w.heap.size w w) := Lib.hid (Below.refl _ _)
  go_enter Try.func5, Try.ntmps5
  go_wp2_with fail
  refine (toIntS_any _ l_f _ (HS_f.out.below HB0.out (Nat.le_refl _)) b_f).mono ?_
  rintro e w1 ⟨v_s_f, rfl, hrw1, hbw1⟩
  have hzw1 : w.heap.size ≤ w1.heap.size := hbw1.size
  have HBw1 : Hid (Below w.heap.size w w1) := Lib.hid (HB0.out.trans (hbw1.mono HB0.out.size))
  have hww1 := HBw1.out.size
  clear hbw1 HB0
  have R_s_f_w1 := Lib.hid hrw1; clear hrw1
  have lt_s_f : Hid (∀ g, v_s_f.ownBlock = some g → w.heap.size ≤ g ∧ g < w1.heap.size) := Lib.hid R_s_f_w1.out.lt
  go_wp2_with fail
  refine (K1.out _ v_s_f R_s_f_w1.out.sl).mono ?_
  rintro e w2 ⟨rfl, hbw2⟩
  have hzw2 : w1.heap.size ≤ w2.heap.size := hbw2.size
  have R_s_f_w2 := Lib.hid (R_s_f_w1.out.below hbw2)
  clear R_s_f_w1
  have HBw2 : Hid (Below w.heap.size w w2) := Lib.hid (HBw1.out.trans (hbw2.mono HBw1.out.size))
  have hww2 := HBw2.out.size
  clear hbw2 HBw1
  clear R_s_f_w2 lt_s_f
  go_wp2_with fail
  refine (toIntS_any _ l_f _ (HS_f.out.below HBw2.out (Nat.le_refl _)) b_f).mono ?_
  rintro e w3 ⟨v_x_f, rfl, hrw3, hbw3⟩
  have hzw3 : w2.heap.size ≤ w3.heap.size := hbw3.size
  have HBw3 : Hid (Below w.heap.size w w3) := Lib.hid (HBw2.out.trans (hbw3.mono HBw2.out.size))
  have hww3 := HBw3.out.size
  clear hbw3 HBw2
  have R_x_f_w3 := Lib.hid hrw3; clear hrw3
  have lt_x_f : Hid (∀ g, v_x_f.ownBlock = some g → w2.heap.size ≤ g ∧ g < w3.heap.size) := Lib.hid R_x_f_w3.out.lt
  go_wp2_with fail
  refine (K2.out _ v_x_f R_x_f_w3.out.sl).mono ?_
  rintro e w4 ⟨rfl, hbw4⟩
  have hzw4 : w3.heap.size ≤ w4.heap.size := hbw4.size
  have R_x_f_w4 := Lib.hid (R_x_f_w3.out.below hbw4)
  clear R_x_f_w3
  have HBw4 : Hid (Below w.heap.size w w4) := Lib.hid (HBw3.out.trans (hbw4.mono HBw3.out.size))
  have hww4 := HBw4.out.size
  clear hbw4 HBw3
  go_wp2_with fail
  refine (toIntS_any _ l_f _ (HS_f.out.below HBw4.out (Nat.le_refl _)) b_f).mono ?_
  rintro e w5 ⟨v_y_f, rfl, hrw5, hbw5⟩
  have hzw5 : w4.heap.size ≤ w5.heap.size := hbw5.size
  have R_x_f_w5 := Lib.hid (R_x_f_w4.out.below hbw5)
  clear R_x_f_w4
  have HBw5 : Hid (Below w.heap.size w w5) := Lib.hid (HBw4.out.trans (hbw5.mono HBw4.out.size))
  have hww5 := HBw5.out.size
  clear hbw5 HBw4
  have R_y_f_w5 := Lib.hid hrw5; clear hrw5
  have lt_y_f : Hid (∀ g, v_y_f.ownBlock = some g → w4.heap.size ≤ g ∧ g < w5.heap.size) := Lib.hid R_y_f_w5.out.lt
  go_wp2_with fail
  refine (eq_same v_x_f v_y_f l_f _ _ _ R_x_f_w5.out R_y_f_w5.out (by omega)).mono ?_
  rintro e w6 ⟨rfl, hbw6⟩
  have hzw6 : w5.heap.size ≤ w6.heap.size := hbw6.size
  have R_x_f_w6 := Lib.hid (R_x_f_w5.out.below hbw6)
  clear R_x_f_w5
  have R_y_f_w6 := Lib.hid (R_y_f_w5.out.below hbw6)
  clear R_y_f_w5
  have HBw6 : Hid (Below w.heap.size w w6) := Lib.hid (HBw5.out.trans (hbw6.mono HBw5.out.size))
  have hww6 := HBw6.out.size
  clear hbw6 HBw5
  clear R_y_f_w6 lt_y_f
  go_wp2
  go_ret
  exact ⟨rfl, HBw6.out⟩
end Go.Proofs.Ytgndlpdcebmgmac
