/- PolyOf, of the program and of the model, by contracts; the walk of its law. -/
import Derived.Test.YthklnfanbegecabIL
import Derived.Test.YthklnfanbegecabIK
import Derived.Test.YthklnfanbegecabHS
import Derived.Deep.RegionHeld3
namespace Go.Proofs.Ythklnfanbegecab
open Go.RowKit
theorem from_same {m : Nat} {t : Nat → Int} (h : isSz (m : Int) = true) (ht : ∀ i, El m (t i)) : fl (redR m (tms m t) m) (redn m (tms m t) m) = fl (ipl m t m) (sn (ipl m t m) m) := by
  have hs : ∀ j, j < m → redR m (tms m t) m j = ipl m t m j := fun j hj => by
    rw [redR_small m _ h (tms_el h ht) m (Nat.le_refl _), if_pos hj, tms_same h ht]
  have e : redn m (tms m t) m = sn (ipl m t m) m := by
    unfold redn
    exact sn_congr hs
  rw [e]
  refine fl_congr fun i hi => hs i ?_
  have := sn_le (ipl m t m) m
  omega
theorem tabl_parts {q : Int} {l : List Int} (h : tabl q l = true) : (l.length : Int) = q ∧ l.all (inF q) = true := by
  simpa [tabl] using h
theorem spec_PolyOf_no (q : Int) (v : Value) (l : List Int) (w : World) (hv : Sl w v l) (hl : l.length ≤ 1048576) (hn : (isSz q && tabl q l) = false) :
    Calls Try.prog 32 #[.int .i64 q, v] w fun e w' => e = .returned (.tuple #[.slice none 0 0, .bool false]) ∧ Below w.heap.size w w' := by
  have hp := plTable_any q v l w hv hl
  rw [hn] at hp
  have HP := Lib.hid hp
  clear hp hn hv hl
  go_enter Try.func32, Try.ntmps32
  go_wp2_with fail
  refine HP.out.mono ?_
  rintro e w1 ⟨rfl, hb1⟩
  go_wp2
  go_ret2
  exact ⟨rfl, hb1⟩
theorem impl_PolyOf_no1 (q : Int) (v : Value) (w : World) (h : isSz q = false) :
    Calls Try.prog 33 #[.int .i64 q, v] w fun e w' => e = .returned (.tuple #[.slice none 0 0, .bool false]) ∧ Below w.heap.size w w' := by
  have HF := Lib.hid (fun w => fieldOf_no q w h)
  clear h
  go_enter Try.func33, Try.ntmps33
  go_wp2_with fail
  refine (HF.out _).mono ?_
  rintro e w1 ⟨rfl, hb1⟩
  have hz_hb1 := hb1.size; (try simp at hz_hb1)
  have HB1 := Lib.hid hb1; clear hb1
  go_wp2_with fail
  go_ret2
  have hb1 := HB1.out
  exact ⟨rfl, by (repeat' (first | (with_reducible assumption) | (with_reducible exact Below.refl _ _) | (with_reducible refine below_drewN ?_ _) | (with_reducible refine Below.drew ?_) | (with_reducible refine Below.alloc ?_ ?_ _) | (with_reducible refine Below.setCell ?_ ?_ _) | (with_reducible refine Below.trans ?_ (Below.mono (by assumption) ?_)) | (with_reducible exact Nat.le_refl _) | (with_reducible assumption) | omega | (simp; omega) | (simp; done)))⟩
theorem impl_PolyOf_no2 (q : Int) (v : Value) (l : List Int) (w : World) (h : isSz q = true) (hv : Sl w v l) (hl : l.length ≤ 1048576) (ha : tabl q l = false) :
    Calls Try.prog 33 #[.int .i64 q, v] w fun e w' => e = .returned (.tuple #[.slice none 0 0, .bool false]) ∧ Below w.heap.size w w' := by
  have HF := Lib.hid (fun w => fieldOf_yes q w h)
  have HL := Lib.hid (fun w' (hb : Below w.heap.size w w') => by have := isTable_any q v l w' (hv.below hb (Nat.le_refl _)) hl; rw [ha] at this; exact this)
  clear hv hl ha h
  go_enter Try.func33, Try.ntmps33
  go_wp2_with fail
  refine (HF.out _).mono ?_
  rintro e w1 ⟨rfl, hb1⟩
  have hz_hb1 := hb1.size; (try simp at hz_hb1)
  have HB1 := Lib.hid hb1; clear hb1
  go_wp2_with fail
  refine (HL.out _ (by have hb1 := HB1.out; (repeat' (first | (with_reducible assumption) | (with_reducible exact Below.refl _ _) | (with_reducible refine below_drewN ?_ _) | (with_reducible refine Below.drew ?_) | (with_reducible refine Below.alloc ?_ ?_ _) | (with_reducible refine Below.setCell ?_ ?_ _) | (with_reducible refine Below.trans ?_ (Below.mono (by assumption) ?_)) | (with_reducible exact Nat.le_refl _) | (with_reducible assumption) | omega | (simp; omega) | (simp; done))))).mono ?_
  rintro e w2 ⟨rfl, hb2⟩
  have HB2 := Lib.hid hb2; clear hb2
  go_wp2_with fail
  go_ret2
  have hb1 := HB1.out
  have hb2 := HB2.out
  exact ⟨rfl, by (repeat' (first | (with_reducible assumption) | (with_reducible exact Below.refl _ _) | (with_reducible refine below_drewN ?_ _) | (with_reducible refine Below.drew ?_) | (with_reducible refine Below.alloc ?_ ?_ _) | (with_reducible refine Below.setCell ?_ ?_ _) | (with_reducible refine Below.trans ?_ (Below.mono (by assumption) ?_)) | (with_reducible exact Nat.le_refl _) | (with_reducible assumption) | omega | (simp; omega) | (simp; done)))⟩
set_option maxHeartbeats 1000000 in
theorem spec_PolyOf_yes (m : Nat) (v : Value) (l : List Int) (w : World) (h : isSz (m : Int) = true) (hv : Sl w v l) (ha : tabl (m : Int) l = true) :
    Calls Try.prog 32 #[.int .i64 m, v] w fun e w' => ∃ v', e = .returned (.tuple #[v', .bool true]) ∧ Row w' w.heap.size v' (fl (ipl m (fun i => l.getD i 0) m) (sn (ipl m (fun i => l.getD i 0) m) m)) ∧ Below w.heap.size w w' := by
  have hq := isSz_le (m : Int) h
  have hlm : l.length = m := by have := (tabl_parts ha).1; omega
  have hp := plTable_any (m : Int) v l w hv (by omega)
  rw [h, ha] at hp
  have HP := Lib.hid hp
  have HA := Lib.hid (fun w' (hb : Below w.heap.size w w') => by
    have hvt := (hv.below hb (Nat.le_refl _)).tell
    rw [hlm] at hvt
    exact plFrom_any m v (fun i => l.getD i 0) w' h hvt (all_el h (tabl_parts ha).2))
  clear hp ha hv h
  generalize fl (ipl m (fun i => l.getD i 0) m) (sn (ipl m (fun i => l.getD i 0) m) m) = r at *
  go_enter Try.func32, Try.ntmps32
  go_wp2_with fail
  refine HP.out.mono ?_
  rintro e w1 ⟨rfl, hb1⟩
  have hz_hb1 := hb1.size; (try simp at hz_hb1)
  have HB1 := Lib.hid hb1; clear hb1
  go_wp2_with fail
  refine (HA.out _ HB1.out).mono ?_
  rintro e w2 ⟨v2, rfl, hr2, hb2⟩
  have HR2 := Lib.hid hr2; clear hr2
  have HB2 := Lib.hid hb2; clear hb2
  go_wp2
  go_ret2
  exact ⟨_, rfl, HR2.out.mono hz_hb1, HB1.out.trans (HB2.out.mono hz_hb1)⟩
set_option maxRecDepth 100000 in
set_option maxHeartbeats 4000000 in
theorem impl_PolyOf_yes (m : Nat) (v : Value) (l : List Int) (w : World) (h : isSz (m : Int) = true) (hv : Sl w v l) (ha : tabl (m : Int) l = true) :
    Calls Try.prog 33 #[.int .i64 m, v] w fun e w' => ∃ v', e = .returned (.tuple #[v', .bool true]) ∧ Row w' w.heap.size v' (fl (redR m (tms m (fun i => l.getD i 0)) m) (redn m (tms m (fun i => l.getD i 0)) m)) ∧ Below w.heap.size w w' := by
  have hq := isSz_le (m : Int) h
  have hlm : l.length = m := by have := (tabl_parts ha).1; omega
  have hel := all_el h (tabl_parts ha).2
  have HF := Lib.hid (fun w => fieldOf_yes (m : Int) w h)
  have HL := Lib.hid (fun w' (hb : Below w.heap.size w w') => by have := isTable_any (m : Int) v l w' (hv.below hb (Nat.le_refl _)) (by omega); rw [ha] at this; exact this)
  have HM := Lib.hid (fun w' (hb : Below w.heap.size w w') => by have := mappedIE (m : Int) v l w' h (hv.below hb (Nat.le_refl _)) (tabl_parts ha).2 (by omega); rw [hlm] at this; exact this)
  have HPT := Lib.hid (fun v w' (hs : Se w' v (m : Int) (fun i => l.getD i 0) m) => polyWithTableE m v (fun i => l.getD i 0) w' h hs hel)
  have HK : Hid (redn m (tms m (fun i => l.getD i 0)) m ≤ m) := Lib.hid (sn_le _ _)
  have HN := Lib.hid (fun v w' (hs : Se w' v (m : Int) (redR m (tms m (fun i => l.getD i 0)) m) (redn m (tms m (fun i => l.getD i 0)) m)) => numbersE (m : Int) v _ _ w' h hs (fun i _ => redR_el m _ h (tms_el h hel) _ _) (by have := HK.out; omega))
  obtain ⟨a, cap, rfl⟩ := hv.form
  clear hv ha h hel
  rw [hlm] at *
  clear hlm
  generalize redR m (tms m (fun i => l.getD i 0)) m = R at *
  generalize redn m (tms m (fun i => l.getD i 0)) m = k at *
  generalize (fun i => l.getD i 0) = c at *
  go_enter Try.func33, Try.ntmps33
  go_wp2_with fail
  refine (HF.out _).mono ?_
  rintro e w1 ⟨rfl, hb1⟩
  have hz1 := hb1.size
  have hbw1 : Below w.heap.size w (w1.alloc (ffblk (m : Int))) := by (repeat' (first | (with_reducible assumption) | (with_reducible exact Below.refl _ _) | (with_reducible refine below_drewN ?_ _) | (with_reducible refine Below.drew ?_) | (with_reducible refine Below.alloc ?_ ?_ _) | (with_reducible refine Below.setCell ?_ ?_ _) | (with_reducible refine Below.trans ?_ (Below.mono (by assumption) ?_)) | (with_reducible exact Nat.le_refl _) | (with_reducible assumption) | omega | (simp; omega) | (simp; done)))
  clear hb1
  go_wp2_with fail
  refine (HL.out _ hbw1).mono ?_
  rintro e w2 ⟨rfl, hb2⟩
  have hfb : w2.heap[w1.heap.size]? = some (ffblk (m : Int)) := (hb2.block _ (by simp)).trans (heap_alloc_new w1 _)
  have hbw2 : Below w.heap.size w w2 := hbw1.trans (hb2.mono hbw1.size)
  clear hbw1 hb2
  obtain ⟨f0, f1, f2, ff, fl0⟩ := cells3' hfb
  have HKEEP : Hid (∀ w', Below w2.heap.size w2 w' → w'.cell? ⟨w1.heap.size, 0, none⟩ = some (.int .i64 m) ∧ w'.cell? ⟨w1.heap.size, 1, none⟩ = some (.int .i64 (pr m)) ∧ w'.cell? ⟨w1.heap.size, 2, none⟩ = some (.int .i64 (pl m))) := Lib.hid fun w' hb => by
    obtain ⟨x0, x1, x2, _⟩ := cells3' ((hb.block _ fl0).trans hfb)
    exact ⟨x0, x1, x2⟩
  clear hfb
  go_wp2_with fail
  go_region_held3 (fun w' => w'.cell? ⟨w1.heap.size, 0, none⟩ = some (.int .i64 m) ∧ w'.cell? ⟨w1.heap.size, 1, none⟩ = some (.int .i64 (pr m)) ∧ w'.cell? ⟨w1.heap.size, 2, none⟩ = some (.int .i64 (pl m)))
    (exact HKEEP.out _ (by (try have hb3 := HB3.out); (try have hb4 := HB4.out); (try have hb5 := HB5.out); (repeat' (first | (with_reducible assumption) | (with_reducible exact Below.refl _ _) | (with_reducible refine below_drewN ?_ _) | (with_reducible refine Below.drew ?_) | (with_reducible refine Below.alloc ?_ ?_ _) | (with_reducible refine Below.setCell ?_ ?_ _) | (with_reducible refine Below.trans ?_ (Below.mono (by assumption) ?_)) | (with_reducible exact Nat.le_refl _) | (with_reducible assumption) | omega | (simp; omega) | (simp; done)))))
    (first
    | (go_at_call 58; refine (HM.out _ (by (repeat' (first | (with_reducible assumption) | (with_reducible exact Below.refl _ _) | (with_reducible refine below_drewN ?_ _) | (with_reducible refine Below.drew ?_) | (with_reducible refine Below.alloc ?_ ?_ _) | (with_reducible refine Below.setCell ?_ ?_ _) | (with_reducible refine Below.trans ?_ (Below.mono (by assumption) ?_)) | (with_reducible exact Nat.le_refl _) | (with_reducible assumption) | omega | (simp; omega) | (simp; done))))).mono ?_; rintro e w3 ⟨g3, rfl, hg3, hk3, he3, hb3⟩; have HSE3 : Hid (Se w3 (.slice (some ⟨g3, 0, none⟩) m m) (m : Int) c m) := Lib.hid ⟨g3, _, rfl, hk3.lt, he3⟩; clear hk3 he3; have hz3 := hb3.size; (try simp at hz3); have HB3 := Lib.hid hb3; clear hb3)
    | (go_at_call 64; refine (HPT.out _ _ HSE3.out).mono ?_; rintro e w4 ⟨g4, cp4, rfl, hg4, he4, hb4⟩; have HSE4 : Hid (Se w4 (.slice (some ⟨g4, 0, none⟩) k cp4) (m : Int) R k) := Lib.hid ⟨g4, _, rfl, hg4, he4⟩; clear he4; have hz4 := hb4.size; (try simp at hz4); have HB4 := Lib.hid hb4; clear hb4)
    | (go_at_call 48; refine (HN.out _ _ HSE4.out).mono ?_; rintro e w5 ⟨v5, rfl, hr5, hb5⟩; have HR5 := Lib.hid hr5; clear hr5; have hz5 := hb5.size; (try simp at hz5); have HB5 := Lib.hid hb5; clear hb5))
  all_goals
    go_wp2
    go_ret2
    have hb3 := HB3.out
    have hb4 := HB4.out
    have hb5 := HB5.out
    have hz0 := hbw2.size
    exact ⟨_, rfl, HR5.out.mono (by omega), by (repeat' (first | (with_reducible assumption) | (with_reducible exact Below.refl _ _) | (with_reducible refine below_drewN ?_ _) | (with_reducible refine Below.drew ?_) | (with_reducible refine Below.alloc ?_ ?_ _) | (with_reducible refine Below.setCell ?_ ?_ _) | (with_reducible refine Below.trans ?_ (Below.mono (by assumption) ?_)) | (with_reducible exact Nat.le_refl _) | (with_reducible assumption) | omega | (simp; omega) | (simp; done)))⟩

theorem key_PolyOf (q : Int) (l_t : List Int) (b_t : l_t.length ≤ 1048576) : ∃ (r : List Int) (o : Bool), r.length ≤ 1048576 ∧ (∀ (w : World) (v_t : Value) (_ : Sl w v_t l_t), Calls Try.prog 32 #[.int .i64 q, v_t] w fun e w' => ∃ v, e = .returned (.tuple #[v, .bool o]) ∧ Row w' w.heap.size v r ∧ Below w.heap.size w w') ∧
      (∀ (w : World) (v_t : Value) (_ : Sl w v_t l_t), Calls Try.prog 33 #[.int .i64 q, v_t] w fun e w' => ∃ v, e = .returned (.tuple #[v, .bool o]) ∧ Row w' w.heap.size v r ∧ Below w.heap.size w w') := by
  cases h : isSz q && tabl q l_t with
  | false =>
    refine ⟨[], false, by simp, fun w v hv => (spec_PolyOf_no q v l_t w hv b_t h).mono fun _ _ ⟨he, hb⟩ => ⟨_, he, Row.nil _ _, hb⟩, fun w v hv => ?_⟩
    cases hs : isSz q with
    | false => exact (impl_PolyOf_no1 q v w hs).mono fun _ _ ⟨he, hb⟩ => ⟨_, he, Row.nil _ _, hb⟩
    | true =>
      rw [hs] at h
      exact (impl_PolyOf_no2 q v l_t w hs hv b_t h).mono fun _ _ ⟨he, hb⟩ => ⟨_, he, Row.nil _ _, hb⟩
  | true =>
    simp only [Bool.and_eq_true] at h
    have hq := isSz_le q h.1
    obtain ⟨m, rfl⟩ := Int.eq_ofNat_of_zero_le (show 0 ≤ q by omega)
    have hsame := from_same h.1 (all_el h.1 (tabl_parts h.2).2)
    refine ⟨_, true, ?_, fun w v hv => spec_PolyOf_yes m v l_t w h.1 hv h.2, fun w v hv => ?_⟩
    · rw [fl_len]
      have := sn_le (ipl m (fun i => l_t.getD i 0) m) m
      omega
    · rw [← hsame]
      exact impl_PolyOf_yes m v l_t w h.1 hv h.2
set_option maxRecDepth 100000 in
set_option maxHeartbeats 4000000 in
/-- laws.FnExactPolyOf. -/
theorem walk_FnExactPolyOf (q : Int) (a_t : Option Addr) (n_t c_t : Nat) (z_t : List Int) (w : World) (_h_q : (Lit.int .i64 q).wf = true) (h_t : IsRow .i64 w a_t n_t c_t z_t) :
    Calls Try.prog 11 #[.int .i64 q, .slice a_t n_t c_t] w fun e w' => e = .returned (.bool true) ∧ Below w.heap.size w w' := by
  clear _h_q
  obtain ⟨hs_t, hl_t, _⟩ := h_t.sl
  generalize z_t.take n_t = l_t at *
  clear h_t
  subst hl_t
  by_cases b_t : l_t.length ≤ 1048576
  rotate_left
  · have hn_t : (1048576 : Int) < (l_t.length : Int) := by omega
    go_enter Try.func11, Try.ntmps11
    go_wp2
    go_ret
    exact ⟨rfl, Below.refl _ _⟩
  have hn_t : ¬ (1048576 : Int) < (l_t.length : Int) := by omega
  obtain ⟨r, o, hr, k1, k2⟩ := key_PolyOf q l_t b_t
  have K1 := Lib.hid k1; clear k1
  have K2 := Lib.hid k2; clear k2
  have HS_t := Lib.hid hs_t; clear hs_t
  have HB0 : Hid (Below w.heap.size w w) := Lib.hid (Below.refl _ _)
  go_enter Try.func11, Try.ntmps11
  go_wp2_with fail
  refine (toIntS_any _ l_t _ (HS_t.out.below HB0.out (Nat.le_refl _)) b_t).mono ?_
  rintro e w1 ⟨v_s_t, rfl, hrw1, hbw1⟩
  have hzw1 : w.heap.size ≤ w1.heap.size := hbw1.size
  have HBw1 : Hid (Below w.heap.size w w1) := Lib.hid (HB0.out.trans (hbw1.mono HB0.out.size))
  have hww1 := HBw1.out.size
  clear hbw1 HB0
  have R_s_t_w1 := Lib.hid hrw1; clear hrw1
  have lt_s_t : Hid (∀ g, v_s_t.ownBlock = some g → w.heap.size ≤ g ∧ g < w1.heap.size) := Lib.hid R_s_t_w1.out.lt
  go_wp2_with fail
  refine (K1.out _ v_s_t R_s_t_w1.out.sl).mono ?_
  rintro e w2 ⟨v_sp, rfl, hrw2, hbw2⟩
  have hzw2 : w1.heap.size ≤ w2.heap.size := hbw2.size
  have R_s_t_w2 := Lib.hid (R_s_t_w1.out.below hbw2)
  clear R_s_t_w1
  have HBw2 : Hid (Below w.heap.size w w2) := Lib.hid (HBw1.out.trans (hbw2.mono HBw1.out.size))
  have hww2 := HBw2.out.size
  clear hbw2 HBw1
  have R_sp_w2 := Lib.hid hrw2; clear hrw2
  have lt_sp : Hid (∀ g, v_sp.ownBlock = some g → w1.heap.size ≤ g ∧ g < w2.heap.size) := Lib.hid R_sp_w2.out.lt
  clear R_s_t_w2 lt_s_t
  go_wp2_with fail
  refine (toIntS_any _ l_t _ (HS_t.out.below HBw2.out (Nat.le_refl _)) b_t).mono ?_
  rintro e w3 ⟨v_x_t, rfl, hrw3, hbw3⟩
  have hzw3 : w2.heap.size ≤ w3.heap.size := hbw3.size
  have R_sp_w3 := Lib.hid (R_sp_w2.out.below hbw3)
  clear R_sp_w2
  have HBw3 : Hid (Below w.heap.size w w3) := Lib.hid (HBw2.out.trans (hbw3.mono HBw2.out.size))
  have hww3 := HBw3.out.size
  clear hbw3 HBw2
  have R_x_t_w3 := Lib.hid hrw3; clear hrw3
  have lt_x_t : Hid (∀ g, v_x_t.ownBlock = some g → w2.heap.size ≤ g ∧ g < w3.heap.size) := Lib.hid R_x_t_w3.out.lt
  go_wp2_with fail
  refine (K2.out _ v_x_t R_x_t_w3.out.sl).mono ?_
  rintro e w4 ⟨v_im, rfl, hrw4, hbw4⟩
  have hzw4 : w3.heap.size ≤ w4.heap.size := hbw4.size
  have R_sp_w4 := Lib.hid (R_sp_w3.out.below hbw4)
  clear R_sp_w3
  have R_x_t_w4 := Lib.hid (R_x_t_w3.out.below hbw4)
  clear R_x_t_w3
  have HBw4 : Hid (Below w.heap.size w w4) := Lib.hid (HBw3.out.trans (hbw4.mono HBw3.out.size))
  have hww4 := HBw4.out.size
  clear hbw4 HBw3
  have R_im_w4 := Lib.hid hrw4; clear hrw4
  have lt_im : Hid (∀ g, v_im.ownBlock = some g → w3.heap.size ≤ g ∧ g < w4.heap.size) := Lib.hid R_im_w4.out.lt
  go_wp2_with fail
  refine (eq_same v_im v_sp r _ _ _ R_im_w4.out R_sp_w4.out (by omega)).mono ?_
  rintro e w5 ⟨rfl, hbw5⟩
  have hzw5 : w4.heap.size ≤ w5.heap.size := hbw5.size
  have R_sp_w5 := Lib.hid (R_sp_w4.out.below hbw5)
  clear R_sp_w4
  have R_x_t_w5 := Lib.hid (R_x_t_w4.out.below hbw5)
  clear R_x_t_w4
  have R_im_w5 := Lib.hid (R_im_w4.out.below hbw5)
  clear R_im_w4
  have HBw5 : Hid (Below w.heap.size w w5) := Lib.hid (HBw4.out.trans (hbw5.mono HBw4.out.size))
  have hww5 := HBw5.out.size
  clear hbw5 HBw4
  go_wp2_with fail
  refine (toIntS_any _ l_t _ (HS_t.out.below HBw5.out (Nat.le_refl _)) b_t).mono ?_
  rintro e w6 ⟨v_y_t, rfl, hrw6, hbw6⟩
  have hzw6 : w5.heap.size ≤ w6.heap.size := hbw6.size
  have R_sp_w6 := Lib.hid (R_sp_w5.out.below hbw6)
  clear R_sp_w5
  have R_x_t_w6 := Lib.hid (R_x_t_w5.out.below hbw6)
  clear R_x_t_w5
  have R_im_w6 := Lib.hid (R_im_w5.out.below hbw6)
  clear R_im_w5
  have HBw6 : Hid (Below w.heap.size w w6) := Lib.hid (HBw5.out.trans (hbw6.mono HBw5.out.size))
  have hww6 := HBw6.out.size
  clear hbw6 HBw5
  have R_y_t_w6 := Lib.hid hrw6; clear hrw6
  have lt_y_t : Hid (∀ g, v_y_t.ownBlock = some g → w5.heap.size ≤ g ∧ g < w6.heap.size) := Lib.hid R_y_t_w6.out.lt
  go_wp2_with fail
  refine (eq_same v_x_t v_y_t l_t _ _ _ R_x_t_w6.out R_y_t_w6.out (by omega)).mono ?_
  rintro e w7 ⟨rfl, hbw7⟩
  have hzw7 : w6.heap.size ≤ w7.heap.size := hbw7.size
  have R_sp_w7 := Lib.hid (R_sp_w6.out.below hbw7)
  clear R_sp_w6
  have R_x_t_w7 := Lib.hid (R_x_t_w6.out.below hbw7)
  clear R_x_t_w6
  have R_im_w7 := Lib.hid (R_im_w6.out.below hbw7)
  clear R_im_w6
  have R_y_t_w7 := Lib.hid (R_y_t_w6.out.below hbw7)
  clear R_y_t_w6
  have HBw7 : Hid (Below w.heap.size w w7) := Lib.hid (HBw6.out.trans (hbw7.mono HBw6.out.size))
  have hww7 := HBw7.out.size
  clear hbw7 HBw6
  clear R_y_t_w7 lt_y_t
  go_wp2_with fail
  refine (mark_any v_x_t l_t _ (1) _ R_x_t_w7.out (by omega) (by omega) (by omega)).mono ?_
  rintro e w8 ⟨rfl, hrw8, hgw8⟩
  have hzw8 : w7.heap.size ≤ w8.heap.size := hgw8.size
  have R_sp_w8 := Lib.hid (R_sp_w7.out.keep (w' := w8) fun g hg => hgw8.block g (R_sp_w7.out.lt g hg).2 fun e => by have h1 := lt_sp.out g hg; have h2 := lt_x_t.out g e.symm; omega)
  clear R_sp_w7
  have R_im_w8 := Lib.hid (R_im_w7.out.keep (w' := w8) fun g hg => hgw8.block g (R_im_w7.out.lt g hg).2 fun e => by have h1 := lt_im.out g hg; have h2 := lt_x_t.out g e.symm; omega)
  clear R_im_w7
  have HBw8 : Hid (Below w.heap.size w w8) := Lib.hid (Below.grown HBw7.out hgw8 (by omega) (fun g e => by have h2 := lt_x_t.out g e; omega))
  have hww8 := HBw8.out.size
  have R_x_t_w8 := Lib.hid hrw8
  clear hrw8 hgw8 HBw7 R_x_t_w7
  clear R_x_t_w8 lt_x_t
  have hpos : ¬ (1 + (l_t.length : Int)) < (0 : Int) := by omega
  go_wp2_with fail
  refine (eq_same v_im v_sp r _ _ _ R_im_w8.out R_sp_w8.out (by omega)).mono ?_
  rintro e w9 ⟨rfl, hbw9⟩
  have hzw9 : w8.heap.size ≤ w9.heap.size := hbw9.size
  have R_sp_w9 := Lib.hid (R_sp_w8.out.below hbw9)
  clear R_sp_w8
  have R_im_w9 := Lib.hid (R_im_w8.out.below hbw9)
  clear R_im_w8
  have HBw9 : Hid (Below w.heap.size w w9) := Lib.hid (HBw8.out.trans (hbw9.mono HBw8.out.size))
  have hww9 := HBw9.out.size
  clear hbw9 HBw8
  go_wp2_with fail
  refine (mark_any v_im r _ (1) _ R_im_w9.out (by omega) (by omega) (by omega)).mono ?_
  rintro e w10 ⟨rfl, hrw10, hgw10⟩
  have hzw10 : w9.heap.size ≤ w10.heap.size := hgw10.size
  have R_sp_w10 := Lib.hid (R_sp_w9.out.keep (w' := w10) fun g hg => hgw10.block g (R_sp_w9.out.lt g hg).2 fun e => by have h1 := lt_sp.out g hg; have h2 := lt_im.out g e.symm; omega)
  clear R_sp_w9
  have HBw10 : Hid (Below w.heap.size w w10) := Lib.hid (Below.grown HBw9.out hgw10 (by omega) (fun g e => by have h2 := lt_im.out g e; omega))
  have hww10 := HBw10.out.size
  have R_im_w10 := Lib.hid hrw10
  clear hrw10 hgw10 HBw9 R_im_w9
  go_wp2_with fail
  refine (held_any v_im r.length _ (1) _ R_im_w10.out (by omega) (by omega) (by omega)).mono ?_
  rintro e wx1 ⟨rfl, rfl⟩
  go_wp2_with fail
  refine (toIntS_any _ l_t _ (HS_t.out.below HBw10.out (Nat.le_refl _)) b_t).mono ?_
  rintro e w11 ⟨v_t_t, rfl, hrw11, hbw11⟩
  have hzw11 : w10.heap.size ≤ w11.heap.size := hbw11.size
  have R_sp_w11 := Lib.hid (R_sp_w10.out.below hbw11)
  clear R_sp_w10
  have R_im_w11 := Lib.hid (R_im_w10.out.below hbw11)
  clear R_im_w10
  have HBw11 : Hid (Below w.heap.size w w11) := Lib.hid (HBw10.out.trans (hbw11.mono HBw10.out.size))
  have hww11 := HBw11.out.size
  clear hbw11 HBw10
  have R_t_t_w11 := Lib.hid hrw11; clear hrw11
  have lt_t_t : Hid (∀ g, v_t_t.ownBlock = some g → w10.heap.size ≤ g ∧ g < w11.heap.size) := Lib.hid R_t_t_w11.out.lt
  go_wp2_with fail
  refine (K2.out _ v_t_t R_t_t_w11.out.sl).mono ?_
  rintro e w12 ⟨v_im2, rfl, hrw12, hbw12⟩
  have hzw12 : w11.heap.size ≤ w12.heap.size := hbw12.size
  have R_sp_w12 := Lib.hid (R_sp_w11.out.below hbw12)
  clear R_sp_w11
  have R_im_w12 := Lib.hid (R_im_w11.out.below hbw12)
  clear R_im_w11
  have R_t_t_w12 := Lib.hid (R_t_t_w11.out.below hbw12)
  clear R_t_t_w11
  have HBw12 : Hid (Below w.heap.size w w12) := Lib.hid (HBw11.out.trans (hbw12.mono HBw11.out.size))
  have hww12 := HBw12.out.size
  clear hbw12 HBw11
  have R_im2_w12 := Lib.hid hrw12; clear hrw12
  have lt_im2 : Hid (∀ g, v_im2.ownBlock = some g → w11.heap.size ≤ g ∧ g < w12.heap.size) := Lib.hid R_im2_w12.out.lt
  clear R_t_t_w12 lt_t_t
  go_wp2_with fail
  refine (eq_same v_im2 v_sp r _ _ _ R_im2_w12.out R_sp_w12.out (by omega)).mono ?_
  rintro e w13 ⟨rfl, hbw13⟩
  have hzw13 : w12.heap.size ≤ w13.heap.size := hbw13.size
  have R_sp_w13 := Lib.hid (R_sp_w12.out.below hbw13)
  clear R_sp_w12
  have R_im_w13 := Lib.hid (R_im_w12.out.below hbw13)
  clear R_im_w12
  have R_im2_w13 := Lib.hid (R_im2_w12.out.below hbw13)
  clear R_im2_w12
  have HBw13 : Hid (Below w.heap.size w w13) := Lib.hid (HBw12.out.trans (hbw13.mono HBw12.out.size))
  have hww13 := HBw13.out.size
  clear hbw13 HBw12
  go_wp2_with fail
  refine (held_any v_im r.length _ (1) _ R_im_w13.out (by omega) (by omega) (by omega)).mono ?_
  rintro e wx2 ⟨rfl, rfl⟩
  go_wp2
  go_ret
  exact ⟨rfl, HBw13.out⟩
end Go.Proofs.Ythklnfanbegecab
