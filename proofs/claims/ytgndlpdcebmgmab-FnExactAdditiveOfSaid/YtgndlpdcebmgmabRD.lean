/- IsAdditive and IsMoved, of both, by contracts; the walks of their laws. -/
import Derived.Test.YtgndlpdcebmgmabRB
import Derived.Test.YtgndlpdcebmgmabRC
namespace Go.Proofs.Ytgndlpdcebmgmab
open Go.RowKit
theorem getD_past {l : List Int} (i : Nat) (h : l.length ≤ i) : l.getD i 0 = 0 := by simp [List.getD, h]
theorem tabF_val {m n : Nat} {f : Nat → Int} (h : isSz (m : Int) = true) (hf : ∀ i, El (m : Int) (f i)) (hn : n ≤ m) (hz : ∀ i, n ≤ i → f i = 0) (a : Nat) (ha : a < m) : tabF (m : Int) f n a = val m f m (a : Int) := by
  show hor m (a : Int) f n n = _
  rw [hor_val h (El.nat ha) hf n, val_more h hf (El.nat ha) hn hz]
/-- A list is additive exactly if its terms are. -/
theorem ad_list {m : Nat} {l : List Int} (h : isSz (m : Int) = true) (hg : good (m : Int) l = true) : adI m (tabF (m : Int) (fun i => l.getD i 0) l.length) = adC m (fun i => l.getD i 0) 0 l.length := by
  have hlen := (good_parts hg).1
  have hf := all_el h (good_parts hg).2
  exact ad_tell h hf (by omega) getD_past fun a ha => tabF_val h hf (by omega) getD_past a ha
theorem ad_listM {m : Nat} {l : List Int} (h : isSz (m : Int) = true) (hg : good (m : Int) l = true) : adI m (fun a => subF m (tabF (m : Int) (fun i => l.getD i 0) l.length a) (tabF (m : Int) (fun i => l.getD i 0) l.length 0)) = adC m (fun i => l.getD i 0) 1 l.length := by
  have hlen := (good_parts hg).1
  have hf := all_el h (good_parts hg).2
  exact ad_moved h hf (by omega) getD_past fun a ha => tabF_val h hf (by omega) getD_past a ha
theorem spec_IsAdditive_no (q : Int) (v : Value) (l : List Int) (w : World) (hv : Sl w v l) (hl : l.length ≤ 1048576) (hg : (isSz q && good q l) = false) :
    Calls Try.prog 25 #[.int .i64 q, v] w fun e w' => e = .returned (.tuple #[.bool false, .bool false]) ∧ Below w.heap.size w w' := by
  have hp := plGood_any q v l w hv hl
  rw [hg] at hp
  have HP := Lib.hid hp
  clear hp hg hv hl
  go_enter Try.func25, Try.ntmps25
  go_wp2_with fail
  refine HP.out.mono ?_
  rintro e w1 ⟨rfl, hb1⟩
  go_wp2
  go_ret2
  exact ⟨rfl, hb1⟩
theorem impl_IsAdditive_no (q : Int) (v : Value) (l : List Int) (w : World) (hv : Sl w v l) (hl : l.length ≤ 1048576) (hg : (isSz q && good q l) = false) :
    Calls Try.prog 26 #[.int .i64 q, v] w fun e w' => e = .returned (.tuple #[.bool false, .bool false]) ∧ Below w.heap.size w w' := by
  have HP := Lib.hid (validPoly_no q v l w hv hl hg)
  clear hg hv hl
  go_enter Try.func26, Try.ntmps26
  go_wp2_with fail
  refine HP.out.mono ?_
  rintro e w1 ⟨rfl, hb1⟩
  have hz_hb1 := hb1.size; (try simp at hz_hb1)
  have HB1 := Lib.hid hb1; clear hb1
  go_wp2_with fail
  go_ret2
  have hb1 := HB1.out
  exact ⟨rfl, by (repeat' (first | (with_reducible assumption) | (with_reducible exact Below.refl _ _) | (with_reducible refine below_drewN ?_ _) | (with_reducible refine Below.drew ?_) | (with_reducible refine Below.alloc ?_ ?_ _) | (with_reducible refine Below.setCell ?_ ?_ _) | (with_reducible refine Below.trans ?_ (Below.mono (by assumption) ?_)) | (with_reducible exact Nat.le_refl _) | (with_reducible assumption) | omega | (simp; omega) | (simp; done)))⟩
set_option maxRecDepth 100000 in
set_option maxHeartbeats 4000000 in
theorem impl_IsAdditive_yes (m : Nat) (v : Value) (l : List Int) (w : World) (h : isSz (m : Int) = true) (hv : Sl w v l) (hg : good (m : Int) l = true) :
    Calls Try.prog 26 #[.int .i64 m, v] w fun e w' => e = .returned (.tuple #[.bool (adC m (fun i => l.getD i 0) 0 l.length), .bool true]) ∧ Below w.heap.size w w' := by
  have hq := isSz_le (m : Int) h
  have hlen := (good_parts hg).1
  have HP := Lib.hid (validPoly_yes (m : Int) v l w h hv hg)
  have HF := Lib.hid (fun v w (hv : Se w v (m : Int) (fun i => l.getD i 0) l.length) => isAdditiveE m l.length v (fun i => l.getD i 0) w h hv (all_el h (good_parts hg).2) (by omega))
  clear hg hv h
  generalize adC m (fun i => l.getD i 0) 0 l.length = ans at *
  generalize (fun i => l.getD i 0) = f at *
  generalize l.length = n at *
  go_enter Try.func26, Try.ntmps26
  go_wp2_with fail
  refine HP.out.mono ?_
  rintro e w1 ⟨g, rfl, hg, hk, he, hb1⟩
  have hgl := hk.lt
  have HE1 := Lib.hid he
  clear hk he
  have hz_hb1 := hb1.size; (try simp at hz_hb1)
  have HB1 := Lib.hid hb1; clear hb1
  go_wp2_with fail
  refine (HF.out (.slice (some ⟨g, 0, none⟩) n n) _ ⟨g, n, rfl, by simp; omega, HE1.out.below (B := w1.heap.size) (by (repeat' (first | (with_reducible assumption) | (with_reducible exact Below.refl _ _) | (with_reducible refine below_drewN ?_ _) | (with_reducible refine Below.drew ?_) | (with_reducible refine Below.alloc ?_ ?_ _) | (with_reducible refine Below.setCell ?_ ?_ _) | (with_reducible refine Below.trans ?_ (Below.mono (by assumption) ?_)) | (with_reducible exact Nat.le_refl _) | (with_reducible assumption) | omega | (simp; omega) | (simp; done)))) hgl⟩).mono ?_
  rintro e w2 ⟨rfl, hb2⟩
  have hz_hb2 := hb2.size; (try simp at hz_hb2)
  have HB2 := Lib.hid hb2; clear hb2
  go_wp2
  go_ret2
  have hb1 := HB1.out
  have hb2 := HB2.out
  exact ⟨rfl, by (repeat' (first | (with_reducible assumption) | (with_reducible exact Below.refl _ _) | (with_reducible refine below_drewN ?_ _) | (with_reducible refine Below.drew ?_) | (with_reducible refine Below.alloc ?_ ?_ _) | (with_reducible refine Below.setCell ?_ ?_ _) | (with_reducible refine Below.trans ?_ (Below.mono (by assumption) ?_)) | (with_reducible exact Nat.le_refl _) | (with_reducible assumption) | omega | (simp; omega) | (simp; done)))⟩
theorem spec_IsMoved_no (q : Int) (v : Value) (l : List Int) (w : World) (hv : Sl w v l) (hl : l.length ≤ 1048576) (hg : (isSz q && good q l) = false) :
    Calls Try.prog 27 #[.int .i64 q, v] w fun e w' => e = .returned (.tuple #[.bool false, .bool false]) ∧ Below w.heap.size w w' := by
  have hp := plGood_any q v l w hv hl
  rw [hg] at hp
  have HP := Lib.hid hp
  clear hp hg hv hl
  go_enter Try.func27, Try.ntmps27
  go_wp2_with fail
  refine HP.out.mono ?_
  rintro e w1 ⟨rfl, hb1⟩
  go_wp2
  go_ret2
  exact ⟨rfl, hb1⟩
theorem impl_IsMoved_no (q : Int) (v : Value) (l : List Int) (w : World) (hv : Sl w v l) (hl : l.length ≤ 1048576) (hg : (isSz q && good q l) = false) :
    Calls Try.prog 28 #[.int .i64 q, v] w fun e w' => e = .returned (.tuple #[.bool false, .bool false]) ∧ Below w.heap.size w w' := by
  have HP := Lib.hid (validPoly_no q v l w hv hl hg)
  clear hg hv hl
  go_enter Try.func28, Try.ntmps28
  go_wp2_with fail
  refine HP.out.mono ?_
  rintro e w1 ⟨rfl, hb1⟩
  have hz_hb1 := hb1.size; (try simp at hz_hb1)
  have HB1 := Lib.hid hb1; clear hb1
  go_wp2_with fail
  go_ret2
  have hb1 := HB1.out
  exact ⟨rfl, by (repeat' (first | (with_reducible assumption) | (with_reducible exact Below.refl _ _) | (with_reducible refine below_drewN ?_ _) | (with_reducible refine Below.drew ?_) | (with_reducible refine Below.alloc ?_ ?_ _) | (with_reducible refine Below.setCell ?_ ?_ _) | (with_reducible refine Below.trans ?_ (Below.mono (by assumption) ?_)) | (with_reducible exact Nat.le_refl _) | (with_reducible assumption) | omega | (simp; omega) | (simp; done)))⟩
set_option maxRecDepth 100000 in
set_option maxHeartbeats 4000000 in
theorem impl_IsMoved_yes (m : Nat) (v : Value) (l : List Int) (w : World) (h : isSz (m : Int) = true) (hv : Sl w v l) (hg : good (m : Int) l = true) :
    Calls Try.prog 28 #[.int .i64 m, v] w fun e w' => e = .returned (.tuple #[.bool (adC m (fun i => l.getD i 0) 1 l.length), .bool true]) ∧ Below w.heap.size w w' := by
  have hq := isSz_le (m : Int) h
  have hlen := (good_parts hg).1
  have HP := Lib.hid (validPoly_yes (m : Int) v l w h hv hg)
  have HF := Lib.hid (fun v w (hv : Se w v (m : Int) (fun i => l.getD i 0) l.length) => isMovedE m l.length v (fun i => l.getD i 0) w h hv (all_el h (good_parts hg).2) (by omega))
  clear hg hv h
  generalize adC m (fun i => l.getD i 0) 1 l.length = ans at *
  generalize (fun i => l.getD i 0) = f at *
  generalize l.length = n at *
  go_enter Try.func28, Try.ntmps28
  go_wp2_with fail
  refine HP.out.mono ?_
  rintro e w1 ⟨g, rfl, hg, hk, he, hb1⟩
  have hgl := hk.lt
  have HE1 := Lib.hid he
  clear hk he
  have hz_hb1 := hb1.size; (try simp at hz_hb1)
  have HB1 := Lib.hid hb1; clear hb1
  go_wp2_with fail
  refine (HF.out (.slice (some ⟨g, 0, none⟩) n n) _ ⟨g, n, rfl, by simp; omega, HE1.out.below (B := w1.heap.size) (by (repeat' (first | (with_reducible assumption) | (with_reducible exact Below.refl _ _) | (with_reducible refine below_drewN ?_ _) | (with_reducible refine Below.drew ?_) | (with_reducible refine Below.alloc ?_ ?_ _) | (with_reducible refine Below.setCell ?_ ?_ _) | (with_reducible refine Below.trans ?_ (Below.mono (by assumption) ?_)) | (with_reducible exact Nat.le_refl _) | (with_reducible assumption) | omega | (simp; omega) | (simp; done)))) hgl⟩).mono ?_
  rintro e w2 ⟨rfl, hb2⟩
  have hz_hb2 := hb2.size; (try simp at hz_hb2)
  have HB2 := Lib.hid hb2; clear hb2
  go_wp2
  go_ret2
  have hb1 := HB1.out
  have hb2 := HB2.out
  exact ⟨rfl, by (repeat' (first | (with_reducible assumption) | (with_reducible exact Below.refl _ _) | (with_reducible refine below_drewN ?_ _) | (with_reducible refine Below.drew ?_) | (with_reducible refine Below.alloc ?_ ?_ _) | (with_reducible refine Below.setCell ?_ ?_ _) | (with_reducible refine Below.trans ?_ (Below.mono (by assumption) ?_)) | (with_reducible exact Nat.le_refl _) | (with_reducible assumption) | omega | (simp; omega) | (simp; done)))⟩
set_option maxRecDepth 100000 in
set_option maxHeartbeats 4000000 in
theorem spec_IsAdditive_yes (m : Nat) (v : Value) (l : List Int) (w : World) (h : isSz (m : Int) = true) (hv : Sl w v l) (hg : good (m : Int) l = true) :
    Calls Try.prog 25 #[.int .i64 m, v] w fun e w' => e = .returned (.tuple #[.bool (adC m (fun i => l.getD i 0) 0 l.length), .bool true]) ∧ Below w.heap.size w w' := by
  have hq := isSz_le (m : Int) h
  have hlen := (good_parts hg).1
  have hp := plGood_any (m : Int) v l w hv (by omega)
  rw [h, hg] at hp
  have HP := Lib.hid hp
  have HV := Lib.hid (fun w' (hb : Below w.heap.size w w') => plValues_any (m : Int) v l w' h (hv.below hb (Nat.le_refl _)) hg)
  have HTE := Lib.hid (fun i (hi : i < m) => tab_el (k := l.length) h (all_el h (good_parts hg).2) i hi)
  simp only [Int.toNat_natCast] at HV
  have had := ad_list h hg
  clear hp hg hv
  generalize tabF (m : Int) (fun i => l.getD i 0) l.length = t at *
  have HA := Lib.hid (fun v w (hs : Sl w v (fl t m)) => by
    have := adIs_any m v t w h hs (fun i hi => HTE.out i hi)
    rw [had] at this
    exact this)
  clear h HTE had
  generalize adC m (fun i => l.getD i 0) 0 l.length = ans at *
  go_enter Try.func25, Try.ntmps25
  go_wp2_with fail
  refine HP.out.mono ?_
  rintro e w1 ⟨rfl, hb1⟩
  have hz_hb1 := hb1.size; (try simp at hz_hb1)
  have HB1 := Lib.hid hb1; clear hb1
  go_wp2_with fail
  refine (HV.out _ HB1.out).mono ?_
  rintro e w3 ⟨v3, rfl, hr3, hb3⟩
  have HR3 := Lib.hid hr3
  have HB3 : Hid (Below w.heap.size w w3) := Lib.hid (HB1.out.trans (hb3.mono hz_hb1)); clear hb3 hr3
  go_wp2_with fail
  refine (HA.out _ _ HR3.out.sl).mono ?_
  rintro e w4 ⟨rfl, hb4⟩
  have HB4 : Hid (Below w.heap.size w w4) := Lib.hid (HB3.out.trans (hb4.mono HB3.out.size)); clear hb4
  go_wp2
  go_ret2
  exact ⟨rfl, HB4.out⟩
set_option maxRecDepth 100000 in
set_option maxHeartbeats 4000000 in
theorem spec_IsMoved_yes (m : Nat) (v : Value) (l : List Int) (w : World) (h : isSz (m : Int) = true) (hv : Sl w v l) (hg : good (m : Int) l = true) :
    Calls Try.prog 27 #[.int .i64 m, v] w fun e w' => e = .returned (.tuple #[.bool (adC m (fun i => l.getD i 0) 1 l.length), .bool true]) ∧ Below w.heap.size w w' := by
  obtain ⟨i0, hi, iz0, iz1, iz2⟩ := info_parts Try.infoI
  have hq := isSz_le (m : Int) h
  have hlen := (good_parts hg).1
  have hp := plGood_any (m : Int) v l w hv (by omega)
  rw [h, hg] at hp
  have HP := Lib.hid hp
  have HV := Lib.hid (fun w' (hb : Below w.heap.size w w') => plValues_any (m : Int) v l w' h (hv.below hb (Nat.le_refl _)) hg)
  have HTE := Lib.hid (fun i (hi : i < m) => tab_el (k := l.length) h (all_el h (good_parts hg).2) i hi)
  simp only [Int.toNat_natCast] at HV
  have had := ad_listM h hg
  clear hp hg hv
  generalize tabF (m : Int) (fun i => l.getD i 0) l.length = t at *
  have HL := Lib.hid (fun i (hi : i < m) w => fdLess_any (m : Int) (t i) (t 0) w h (HTE.out i hi).1 (HTE.out i hi).2 (HTE.out 0 (by omega)).1 (HTE.out 0 (by omega)).2)
  have HUE : Hid (∀ i, i < m → El (m : Int) (subF m (t i) (t 0))) := Lib.hid fun i hi => subF_bd _ _ _ h (HTE.out i hi).1 (HTE.out i hi).2 (HTE.out 0 (by omega)).1 (HTE.out 0 (by omega)).2
  obtain ⟨u, hu⟩ : ∃ u : Nat → Int, u = fun a => subF m (t a) (t 0) := ⟨_, rfl⟩
  have HU : Hid (∀ i, subF m (t i) (t 0) = u i) := Lib.hid fun i => by rw [hu]
  rw [← hu] at had
  clear hu
  have HA := Lib.hid (fun v w (hs : Sl w v (fl u m)) => by
    have := adIs_any m v u w h hs (fun i hi => by have := HUE.out i hi; rwa [HU.out] at this)
    rw [had] at this
    exact this)
  clear h HTE had HUE
  generalize adC m (fun i => l.getD i 0) 1 l.length = ans at *
  go_enter Try.func27, Try.ntmps27
  go_wp2_with fail
  refine HP.out.mono ?_
  rintro e w1 ⟨rfl, hb1⟩
  have hz_hb1 := hb1.size; (try simp at hz_hb1)
  have HB1 := Lib.hid hb1; clear hb1
  go_wp2_with fail
  refine (HV.out _ HB1.out).mono ?_
  rintro e w3 ⟨v3, rfl, hr3, hb3⟩
  have HR3 := Lib.hid hr3
  have HB3 : Hid (Below w.heap.size w w3) := Lib.hid (HB1.out.trans (hb3.mono hz_hb1)); clear hb3 hr3
  obtain ⟨g, cp, hv3, hgB, hgl⟩ := HR3.out.form (by rw [fl_len]; omega)
  rw [fl_len] at hv3
  subst hv3
  have HC3 : Hid (∀ i, i < m → w3.cell? ⟨g, i, none⟩ = some (.int .i64 (t i))) := Lib.hid fun i hi => by
    have := Row.cell (l := fl t m) (by rw [fl_len]; exact HR3.out) i (by rw [fl_len]; exact hi)
    rwa [fl_get _ _ _ hi] at this
  go_wp2_with fail
  go_loopw [7, 19] (fun vo vi wr => ∃ i : Nat, i ≤ m ∧ vi = .int .i64 i ∧ Row wr w3.heap.size vo (fl u i) ∧ Below w3.heap.size w3 wr) (fun _ vi _ => m - (intOf vi).toNat)
  case atStart => exact ⟨0, Nat.zero_le _, rfl, Row.nil _ _, Below.refl _ _⟩
  case round =>
    obtain ⟨i, hi', rfl, hr, hbw⟩ := hrel
    have hz := hbw.size
    by_cases hlt : i < m
    · have hc1 := (hbw.cell (p := ⟨g, i, none⟩) hgl).trans (HC3.out i hlt)
      have hc0 := (hbw.cell (p := ⟨g, 0, none⟩) hgl).trans (HC3.out 0 (by omega))
      have HR := Lib.hid hr; clear hr
      have HBW := Lib.hid hbw; clear hbw
      have HL' := Lib.hid (HL.out i hlt)
      have hui := HU.out i
      rw [hui] at HL'
      have HS := Lib.hid (fl_succ u i)
      clear hui
      generalize t 0 = y at *
      generalize t i = x at *
      obtain ⟨z, hz'⟩ : ∃ z, u i = z := ⟨_, rfl⟩
      rw [hz'] at HL' HS
      clear hz'
      go_wp2_with fail
      refine (HL'.out _).mono ?_
      rintro e w5 ⟨rfl, hb5⟩
      have hz_hb5 := hb5.size; (try simp at hz_hb5)
      have HR5 := Lib.hid (HR.out.below hb5)
      have HB5 : Hid (Below wr.heap.size wr w5) := Lib.hid (by (repeat' (first | (with_reducible assumption) | (with_reducible exact Below.refl _ _) | (with_reducible refine below_drewN ?_ _) | (with_reducible refine Below.drew ?_) | (with_reducible refine Below.alloc ?_ ?_ _) | (with_reducible refine Below.setCell ?_ ?_ _) | (with_reducible refine Below.trans ?_ (Below.mono (by assumption) ?_)) | (with_reducible exact Nat.le_refl _) | (with_reducible assumption) | omega | (simp; omega) | (simp; done))))
      clear hb5
      go_wp2_with (at_builtin; refine wpList_append_own _ rfl _ _ 25 rfl w3.heap.size 3 i0 (.int .i64 0) 1 8 Try.underlying25 hi iz0 iz1 iz2 rfl (by decide) _ _ _ rfl (World.ownsRow.alloc HR5.out _) ⟨w5.heap.size, 0, none⟩ 1 1 [.int .i64 z] rfl rfl ?c1 ?c2 ?c3 ?c4 ?c5 ?_)
      case c1 => exact cell_one_new _ _ _
      case c2 => intro u hu; simp at hu; subst hu; rfl
      case c3 => rw [fl_len]; unfold maxLen; omega
      case c4 => rw [fl_len]; omega
      case c5 => simp; omega
      intro v' w6 hown hgrow _
      have HR6 := Lib.hid (Row.appended hown)
      have hb : Below w3.heap.size w3 (w5.alloc (.cells #[.int .i64 z] 3)) := (HBW.out.trans (HB5.out.mono hz)).alloc (by omega) _
      have HB6 := Lib.hid (hb.grown hgrow (by simp; omega) (fun g hg => (HR5.out.lt g hg).1))
      clear hown hgrow hb
      go_wp2
      go_roundw
      case rel => exact ⟨i + 1, by omega, by go_num, by rw [HS.out]; exact HR6.out, HB6.out⟩
      case measure => simp [intOf]; omega
    · obtain rfl : m = i := by omega
      have HR := Lib.hid hr; clear hr
      have HBW := Lib.hid hbw; clear hbw
      go_wp2_with fail
      refine (HA.out _ _ HR.out.sl).mono ?_
      rintro e w4 ⟨rfl, hb4⟩
      have HB4 : Hid (Below w3.heap.size w3 w4) := Lib.hid (HBW.out.trans (hb4.mono HBW.out.size)); clear hb4
      go_wp2
      go_ret2
      exact ⟨rfl, HB3.out.trans (HB4.out.mono HB3.out.size)⟩
theorem key_IsAdditive (q : Int) (l_f : List Int) (b_f : l_f.length ≤ 1048576) : ∃ (r : Bool) (o : Bool), (∀ (w : World) (v_f : Value) (_ : Sl w v_f l_f), Calls Try.prog 25 #[.int .i64 q, v_f] w fun e w' => e = .returned (.tuple #[.bool r, .bool o]) ∧ Below w.heap.size w w') ∧
      (∀ (w : World) (v_f : Value) (_ : Sl w v_f l_f), Calls Try.prog 26 #[.int .i64 q, v_f] w fun e w' => e = .returned (.tuple #[.bool r, .bool o]) ∧ Below w.heap.size w w') := by
  cases h : isSz q && good q l_f with
  | false => exact ⟨false, false, fun w v hv => spec_IsAdditive_no q v l_f w hv b_f h, fun w v hv => impl_IsAdditive_no q v l_f w hv b_f h⟩
  | true =>
    simp only [Bool.and_eq_true] at h
    have hq := isSz_le q h.1
    obtain ⟨m, rfl⟩ := Int.eq_ofNat_of_zero_le (show 0 ≤ q by omega)
    exact ⟨_, true, fun w v hv => spec_IsAdditive_yes m v l_f w h.1 hv h.2, fun w v hv => impl_IsAdditive_yes m v l_f w h.1 hv h.2⟩
set_option maxRecDepth 100000 in
set_option maxHeartbeats 4000000 in
/-- laws.FnExactIsAdditive. -/
theorem walk_FnExactIsAdditive (q : Int) (a_f : Option Addr) (n_f c_f : Nat) (z_f : List Int) (w : World) (_h_q : (Lit.int .i64 q).wf = true) (h_f : IsRow .i64 w a_f n_f c_f z_f) :
    Calls Try.prog 7 #[.int .i64 q, .slice a_f n_f c_f] w fun e w' => e = .returned (.bool true) ∧ Below w.heap.size w w' := by
  clear _h_q
  obtain ⟨hs_f, hl_f, _⟩ := h_f.sl
  generalize z_f.take n_f = l_f at *
  clear h_f
  subst hl_f
  by_cases b_f : l_f.length ≤ 1048576
  rotate_left
  · have hn_f : (1048576 : Int) < (l_f.length : Int) := by omega
    go_enter Try.func7, Try.ntmps7
    go_wp2
    go_ret
    exact ⟨rfl, Below.refl _ _⟩
  have hn_f : ¬ (1048576 : Int) < (l_f.length : Int) := by omega
  obtain ⟨r, o, k1, k2⟩ := key_IsAdditive q l_f b_f
  have K1 := Lib.hid k1; clear k1
  have K2 := Lib.hid k2; clear k2
  have HS_f := Lib.hid hs_f; clear hs_f
  have HB0 : Hid (Below w.heap.size w w) := Lib.hid (Below.refl _ _)
  go_enter Try.func7, Try.ntmps7
  go_wp2_with fail
  refine (toIntS_any _ l_f _ (HS_f.out.below HB0.out (Nat.le_refl _)) b_f).mono ?_
  rintro e w1 ⟨v_s_f, rfl, hrw1, hbw1⟩
  have hzw1 : w.heap.size ≤ w1.heap.size := hbw1.size
  have HBw1 : Hid (Below w.heap.size w w1) := Lib.hid (HB0.out.trans (hbw1.mono HB0.out.size))
  have hww1 := HBw1.out.size
  clear hbw1 HB0
  have R_s_f_w1 := Lib.hid hrw1; clear hrw1
  have lt_s_f : Hid (∀ g, v_s_f.ownBlock = some g → w.heap.size ≤ g ∧ g < w1.heap.size) := Lib.hid R_s_f_w1.out.lt
  go_wp2_with fail
  refine (K1.out _ v_s_f R_s_f_w1.out.sl).mono ?_
  rintro e w2 ⟨rfl, hbw2⟩
  have hzw2 : w1.heap.size ≤ w2.heap.size := hbw2.size
  have R_s_f_w2 := Lib.hid (R_s_f_w1.out.below hbw2)
  clear R_s_f_w1
  have HBw2 : Hid (Below w.heap.size w w2) := Lib.hid (HBw1.out.trans (hbw2.mono HBw1.out.size))
  have hww2 := HBw2.out.size
  clear hbw2 HBw1
  clear R_s_f_w2 lt_s_f
  go_wp2_with fail
  refine (toIntS_any _ l_f _ (HS_f.out.below HBw2.out (Nat.le_refl _)) b_f).mono ?_
  rintro e w3 ⟨v_x_f, rfl, hrw3, hbw3⟩
  have hzw3 : w2.heap.size ≤ w3.heap.size := hbw3.size
  have HBw3 : Hid (Below w.heap.size w w3) := Lib.hid (HBw2.out.trans (hbw3.mono HBw2.out.size))
  have hww3 := HBw3.out.size
  clear hbw3 HBw2
  have R_x_f_w3 := Lib.hid hrw3; clear hrw3
  have lt_x_f : Hid (∀ g, v_x_f.ownBlock = some g → w2.heap.size ≤ g ∧ g < w3.heap.size) := Lib.hid R_x_f_w3.out.lt
  go_wp2_with fail
  refine (K2.out _ v_x_f R_x_f_w3.out.sl).mono ?_
  rintro e w4 ⟨rfl, hbw4⟩
  have hzw4 : w3.heap.size ≤ w4.heap.size := hbw4.size
  have R_x_f_w4 := Lib.hid (R_x_f_w3.out.below hbw4)
  clear R_x_f_w3
  have HBw4 : Hid (Below w.heap.size w w4) := Lib.hid (HBw3.out.trans (hbw4.mono HBw3.out.size))
  have hww4 := HBw4.out.size
  clear hbw4 HBw3
  go_wp2_with fail
  refine (toIntS_any _ l_f _ (HS_f.out.below HBw4.out (Nat.le_refl _)) b_f).mono ?_
  rintro e w5 ⟨v_y_f, rfl, hrw5, hbw5⟩
  have hzw5 : w4.heap.size ≤ w5.heap.size := hbw5.size
  have R_x_f_w5 := Lib.hid (R_x_f_w4.out.below hbw5)
  clear R_x_f_w4
  have HBw5 : Hid (Below w.heap.size w w5) := Lib.hid (HBw4.out.trans (hbw5.mono HBw4.out.size))
  have hww5 := HBw5.out.size
  clear hbw5 HBw4
  have R_y_f_w5 := Lib.hid hrw5; clear hrw5
  have lt_y_f : Hid (∀ g, v_y_f.ownBlock = some g → w4.heap.size ≤ g ∧ g < w5.heap.size) := Lib.hid R_y_f_w5.out.lt
  go_wp2_with fail
  refine (eq_same v_x_f v_y_f l_f _ _ _ R_x_f_w5.out R_y_f_w5.out (by omega)).mono ?_
  rintro e w6 ⟨rfl, hbw6⟩
  have hzw6 : w5.heap.size ≤ w6.heap.size := hbw6.size
  have R_x_f_w6 := Lib.hid (R_x_f_w5.out.below hbw6)
  clear R_x_f_w5
  have R_y_f_w6 := Lib.hid (R_y_f_w5.out.below hbw6)
  clear R_y_f_w5
  have HBw6 : Hid (Below w.heap.size w w6) := Lib.hid (HBw5.out.trans (hbw6.mono HBw5.out.size))
  have hww6 := HBw6.out.size
  clear hbw6 HBw5
  clear R_y_f_w6 lt_y_f
  go_wp2
  go_ret
  exact ⟨rfl, HBw6.out⟩
theorem key_IsMoved (q : Int) (l_f : List Int) (b_f : l_f.length ≤ 1048576) : ∃ (r : Bool) (o : Bool), (∀ (w : World) (v_f : Value) (_ : Sl w v_f l_f), Calls Try.prog 27 #[.int .i64 q, v_f] w fun e w' => e = .returned (.tuple #[.bool r, .bool o]) ∧ Below w.heap.size w w') ∧
      (∀ (w : World) (v_f : Value) (_ : Sl w v_f l_f), Calls Try.prog 28 #[.int .i64 q, v_f] w fun e w' => e = .returned (.tuple #[.bool r, .bool o]) ∧ Below w.heap.size w w') := by
  cases h : isSz q && good q l_f with
  | false => exact ⟨false, false, fun w v hv => spec_IsMoved_no q v l_f w hv b_f h, fun w v hv => impl_IsMoved_no q v l_f w hv b_f h⟩
  | true =>
    simp only [Bool.and_eq_true] at h
    have hq := isSz_le q h.1
    obtain ⟨m, rfl⟩ := Int.eq_ofNat_of_zero_le (show 0 ≤ q by omega)
    exact ⟨_, true, fun w v hv => spec_IsMoved_yes m v l_f w h.1 hv h.2, fun w v hv => impl_IsMoved_yes m v l_f w h.1 hv h.2⟩
set_option maxRecDepth 100000 in
set_option maxHeartbeats 4000000 in
/-- laws.FnExactIsMoved. -/
theorem walk_FnExactIsMoved (q : Int) (a_f : Option Addr) (n_f c_f : Nat) (z_f : List Int) (w : World) (_h_q : (Lit.int .i64 q).wf = true) (h_f : IsRow .i64 w a_f n_f c_f z_f) :
    Calls Try.prog 8 #[.int .i64 q, .slice a_f n_f c_f] w fun e w' => e = .returned (.bool true) ∧ Below w.heap.size w w' := by
  clear _h_q
  obtain ⟨hs_f, hl_f, _⟩ := h_f.sl
  generalize z_f.take n_f = l_f at *
  clear h_f
  subst hl_f
  by_cases b_f : l_f.length ≤ 1048576
  rotate_left
  · have hn_f : (1048576 : Int) < (l_f.length : Int) := by omega
    go_enter Try.func8, Try.ntmps8
    go_wp2
    go_ret
    exact ⟨rfl, Below.refl _ _⟩
  have hn_f : ¬ (1048576 : Int) < (l_f.length : Int) := by omega
  obtain ⟨r, o, k1, k2⟩ := key_IsMoved q l_f b_f
  have K1 := Lib.hid k1; clear k1
  have K2 := Lib.hid k2; clear k2
  have HS_f := Lib.hid hs_f; clear hs_f
  have HB0 : Hid (Below w.heap.size w w) := Lib.hid (Below.refl _ _)
  go_enter Try.func8, Try.ntmps8
  go_wp2_with fail
  refine (toIntS_any _ l_f _ (HS_f.out.below HB0.out (Nat.le_refl _)) b_f).mono ?_
  rintro e w1 ⟨v_s_f, rfl, hrw1, hbw1⟩
  have hzw1 : w.heap.size ≤ w1.heap.size := hbw1.size
  have HBw1 : Hid (Below w.heap.size w w1) := Lib.hid (HB0.out.trans (hbw1.mono HB0.out.size))
  have hww1 := HBw1.out.size
  clear hbw1 HB0
  have R_s_f_w1 := Lib.hid hrw1; clear hrw1
  have lt_s_f : Hid (∀ g, v_s_f.ownBlock = some g → w.heap.size ≤ g ∧ g < w1.heap.size) := Lib.hid R_s_f_w1.out.lt
  go_wp2_with fail
  refine (K1.out _ v_s_f R_s_f_w1.out.sl).mono ?_
  rintro e w2 ⟨rfl, hbw2⟩
  have hzw2 : w1.heap.size ≤ w2.heap.size := hbw2.size
  have R_s_f_w2 := Lib.hid (R_s_f_w1.out.below hbw2)
  clear R_s_f_w1
  have HBw2 : Hid (Below w.heap.size w w2) := Lib.hid (HBw1.out.trans (hbw2.mono HBw1.out.size))
  have hww2 := HBw2.out.size
  clear hbw2 HBw1
  clear R_s_f_w2 lt_s_f
  go_wp2_with fail
  refine (toIntS_any _ l_f _ (HS_f.out.below HBw2.out (Nat.le_refl _)) b_f).mono ?_
  rintro e w3 ⟨v_x_f, rfl, hrw3, hbw3⟩
  have hzw3 : w2.heap.size ≤ w3.heap.size := hbw3.size
  have HBw3 : Hid (Below w.heap.size w w3) := Lib.hid (HBw2.out.trans (hbw3.mono HBw2.out.size))
  have hww3 := HBw3.out.size
  clear hbw3 HBw2
  have R_x_f_w3 := Lib.hid hrw3; clear hrw3
  have lt_x_f : Hid (∀ g, v_x_f.ownBlock = some g → w2.heap.size ≤ g ∧ g < w3.heap.size) := Lib.hid R_x_f_w3.out.lt
  go_wp2_with fail
  refine (K2.out _ v_x_f R_x_f_w3.out.sl).mono ?_
  rintro e w4 ⟨rfl, hbw4⟩
  have hzw4 : w3.heap.size ≤ w4.heap.size := hbw4.size
  have R_x_f_w4 := Lib.hid (R_x_f_w3.out.below hbw4)
  clear R_x_f_w3
  have HBw4 : Hid (Below w.heap.size w w4) := Lib.hid (HBw3.out.trans (hbw4.mono HBw3.out.size))
  have hww4 := HBw4.out.size
  clear hbw4 HBw3
  go_wp2_with fail
  refine (toIntS_any _ l_f _ (HS_f.out.below HBw4.out (Nat.le_refl _)) b_f).mono ?_
  rintro e w5 ⟨v_y_f, rfl, hrw5, hbw5⟩
  have hzw5 : w4.heap.size ≤ w5.heap.size := hbw5.size
  have R_x_f_w5 := Lib.hid (R_x_f_w4.out.below hbw5)
  clear R_x_f_w4
  have HBw5 : Hid (Below w.heap.size w w5) := Lib.hid (HBw4.out.trans (hbw5.mono HBw4.out.size))
  have hww5 := HBw5.out.size
  clear hbw5 HBw4
  have R_y_f_w5 := Lib.hid hrw5; clear hrw5
  have lt_y_f : Hid (∀ g, v_y_f.ownBlock = some g → w4.heap.size ≤ g ∧ g < w5.heap.size) := Lib.hid R_y_f_w5.out.lt
  go_wp2_with fail
  refine (eq_same v_x_f v_y_f l_f _ _ _ R_x_f_w5.out R_y_f_w5.out (by omega)).mono ?_
  rintro e w6 ⟨rfl, hbw6⟩
  have hzw6 : w5.heap.size ≤ w6.heap.size := hbw6.size
  have R_x_f_w6 := Lib.hid (R_x_f_w5.out.below hbw6)
  clear R_x_f_w5
  have R_y_f_w6 := Lib.hid (R_y_f_w5.out.below hbw6)
  clear R_y_f_w5
  have HBw6 : Hid (Below w.heap.size w w6) := Lib.hid (HBw5.out.trans (hbw6.mono HBw5.out.size))
  have hww6 := HBw6.out.size
  clear hbw6 HBw5
  clear R_y_f_w6 lt_y_f
  go_wp2
  go_ret
  exact ⟨rfl, HBw6.out⟩
end Go.Proofs.Ytgndlpdcebmgmab
