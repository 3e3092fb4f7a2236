/- PolyOf, of the program and of the model, by contracts; the walk of its law. -/
import Derived.Test.YtljijnanmpajaaaGreatKN
import Derived.Test.YtljijnanmpajaaaGreatKO
import Derived.Test.YtljijnanmpajaaaGreatKM
import Derived.Deep.RegionHeld3
namespace Go.Proofs.YtljijnanmpajaaaGreat
open Go.RowKit
theorem from_same {m : Nat} {t : Nat → Int} (h : isSz (m : Int) = true) (ht : ∀ i, El m (t i)) : fl (redR m (tms m t) m) (redn m (tms m t) m) = fl (ipl m t m) (sn (ipl m t m) m) := by
  have hs : ∀ j, j < m → redR m (tms m t) m j = ipl m t m j := fun j hj => by
    rw [redR_small m _ h (tms_el h ht) m (Nat.le_refl _), if_pos hj, tms_same h ht]
  have e : redn m (tms m t) m = sn (ipl m t m) m := by
    unfold redn
    exact sn_congr hs
  rw [e]
  refine fl_congr fun i hi => hs i ?_
  have := sn_le (ipl m t m) m
  omega
theorem tabl_parts {q : Int} {l : List Int} (h : tabl q l = true) : (l.length : Int) = q ∧ l.all (inF q) = true := by
  simpa [tabl] using h
theorem spec_PolyOf_no (q : Int) (v : Value) (l : List Int) (w : World) (hv : Sl w v l) (hl : l.length ≤ 1048576) (hn : (isSz q && tabl q l) = false) :
    Calls Tryz.prog 19 #[.int .i64 q, v] w fun e w' => e = .returned (.tuple #[.slice none 0 0, .bool false]) ∧ Below w.heap.size w w' := by
  have hp := plTable_any q v l w hv hl
  rw [hn] at hp
  have HP := Lib.hid hp
  clear hp hn hv hl
  go_enter Tryz.func19, Tryz.ntmps19
  go_wp2_with fail
  refine HP.out.mono ?_
  rintro e w1 ⟨rfl, hb1⟩
  go_wp2
  go_ret2
  exact ⟨rfl, hb1⟩
theorem impl_PolyOf_no1 (q : Int) (v : Value) (w : World) (h : isSz q = false) :
    Calls Tryz.prog 14 #[.int .i64 q, v] w fun e w' => e = .returned (.tuple #[.slice none 0 0, .bool false]) ∧ Below w.heap.size w w' := by
  have HF := Lib.hid (fun w => fieldOf_no q w h)
  clear h
  go_enter Tryz.func14, Tryz.ntmps14
  go_wp2_with fail
  refine (HF.out _).mono ?_
  rintro e w1 ⟨rfl, hb1⟩
  have hz_hb1 := hb1.size; (try simp at hz_hb1)
  have HB1 := Lib.hid hb1; clear hb1
  go_wp2_with fail
  go_ret2
  have hb1 := HB1.out
  exact ⟨rfl, by (repeat' (first | (with_reducible assumption) | (with_reducible exact Below.refl _ _) | (with_reducible refine below_drewN ?_ _) | (with_reducible refine Below.drew ?_) | (with_reducible refine Below.alloc ?_ ?_ _) | (with_reducible refine Below.setCell ?_ ?_ _) | (with_reducible refine Below.trans ?_ (Below.mono (by assumption) ?_)) | (with_reducible exact Nat.le_refl _) | (with_reducible assumption) | omega | (simp; omega) | (simp; done)))⟩
theorem impl_PolyOf_no2 (q : Int) (v : Value) (l : List Int) (w : World) (h : isSz q = true) (hv : Sl w v l) (hl : l.length ≤ 1048576) (ha : tabl q l = false) :
    Calls Tryz.prog 14 #[.int .i64 q, v] w fun e w' => e = .returned (.tuple #[.slice none 0 0, .bool false]) ∧ Below w.heap.size w w' := by
  have HF := Lib.hid (fun w => fieldOf_yes q w h)
  have HL := Lib.hid (fun w' (hb : Below w.heap.size w w') => by have := isTable_any q v l w' (hv.below hb (Nat.le_refl _)) hl; rw [ha] at this; exact this)
  clear hv hl ha h
  go_enter Tryz.func14, Tryz.ntmps14
  go_wp2_with fail
  refine (HF.out _).mono ?_
  rintro e w1 ⟨rfl, hb1⟩
  have hz_hb1 := hb1.size; (try simp at hz_hb1)
  have HB1 := Lib.hid hb1; clear hb1
  go_wp2_with fail
  refine (HL.out _ (by have hb1 := HB1.out; (repeat' (first | (with_reducible assumption) | (with_reducible exact Below.refl _ _) | (with_reducible refine below_drewN ?_ _) | (with_reducible refine Below.drew ?_) | (with_reducible refine Below.alloc ?_ ?_ _) | (with_reducible refine Below.setCell ?_ ?_ _) | (with_reducible refine Below.trans ?_ (Below.mono (by assumption) ?_)) | (with_reducible exact Nat.le_refl _) | (with_reducible assumption) | omega | (simp; omega) | (simp; done))))).mono ?_
  rintro e w2 ⟨rfl, hb2⟩
  have HB2 := Lib.hid hb2; clear hb2
  go_wp2_with fail
  go_ret2
  have hb1 := HB1.out
  have hb2 := HB2.out
  exact ⟨rfl, by (repeat' (first | (with_reducible assumption) | (with_reducible exact Below.refl _ _) | (with_reducible refine below_drewN ?_ _) | (with_reducible refine Below.drew ?_) | (with_reducible refine Below.alloc ?_ ?_ _) | (with_reducible refine Below.setCell ?_ ?_ _) | (with_reducible refine Below.trans ?_ (Below.mono (by assumption) ?_)) | (with_reducible exact Nat.le_refl _) | (with_reducible assumption) | omega | (simp; omega) | (simp; done)))⟩
set_option maxHeartbeats 1000000 in
theorem spec_PolyOf_yes (m : Nat) (v : Value) (l : List Int) (w : World) (h : isSz (m : Int) = true) (hv : Sl w v l) (ha : tabl (m : Int) l = true) :
    Calls Tryz.prog 19 #[.int .i64 m, v] w fun e w' => ∃ v', e = .returned (.tuple #[v', .bool true]) ∧ Row w' w.heap.size v' (fl (ipl m (fun i => l.getD i 0) m) (sn (ipl m (fun i => l.getD i 0) m) m)) ∧ Below w.heap.size w w' := by
  have hq := isSz_le (m : Int) h
  have hlm : l.length = m := by have := (tabl_parts ha).1; omega
  have hp := plTable_any (m : Int) v l w hv (by omega)
  rw [h, ha] at hp
  have HP := Lib.hid hp
  have HA := Lib.hid (fun w' (hb : Below w.heap.size w w') => by
    have hvt := (hv.below hb (Nat.le_refl _)).tell
    rw [hlm] at hvt
    exact plFrom_any m v (fun i => l.getD i 0) w' h hvt (all_el h (tabl_parts ha).2))
  clear hp ha hv h
  generalize fl (ipl m (fun i => l.getD i 0) m) (sn (ipl m (fun i => l.getD i 0) m) m) = r at *
  go_enter Tryz.func19, Tryz.ntmps19
  go_wp2_with fail
  refine HP.out.mono ?_
  rintro e w1 ⟨rfl, hb1⟩
  have hz_hb1 := hb1.size; (try simp at hz_hb1)
  have HB1 := Lib.hid hb1; clear hb1
  go_wp2_with fail
  refine (HA.out _ HB1.out).mono ?_
  rintro e w2 ⟨v2, rfl, hr2, hb2⟩
  have HR2 := Lib.hid hr2; clear hr2
  have HB2 := Lib.hid hb2; clear hb2
  go_wp2
  go_ret2
  exact ⟨_, rfl, HR2.out.mono hz_hb1, HB1.out.trans (HB2.out.mono hz_hb1)⟩
set_option maxRecDepth 100000 in
set_option maxHeartbeats 4000000 in
theorem impl_PolyOf_yes (m : Nat) (v : Value) (l : List Int) (w : World) (h : isSz (m : Int) = true) (hv : Sl w v l) (ha : tabl (m : Int) l = true) :
    Calls Tryz.prog 14 #[.int .i64 m, v] w fun e w' => ∃ v', e = .returned (.tuple #[v', .bool true]) ∧ Row w' w.heap.size v' (fl (redR m (tms m (fun i => l.getD i 0)) m) (redn m (tms m (fun i => l.getD i 0)) m)) ∧ Below w.heap.size w w' := by
  have hq := isSz_le (m : Int) h
  have hlm : l.length = m := by have := (tabl_parts ha).1; omega
  have hel := all_el h (tabl_parts ha).2
  have HF := Lib.hid (fun w => fieldOf_yes (m : Int) w h)
  have HL := Lib.hid (fun w' (hb : Below w.heap.size w w') => by have := isTable_any (m : Int) v l w' (hv.below hb (Nat.le_refl _)) (by omega); rw [ha] at this; exact this)
  have HM := Lib.hid (fun w' (hb : Below w.heap.size w w') => by have := mappedIE (m : Int) v l w' h (hv.below hb (Nat.le_refl _)) (tabl_parts ha).2 (by omega); rw [hlm] at this; exact this)
  have HPT := Lib.hid (fun v w' (hs : Se w' v (m : Int) (fun i => l.getD i 0) m) => polyWithTableE m v (fun i => l.getD i 0) w' h hs hel)
  have HK : Hid (redn m (tms m (fun i => l.getD i 0)) m ≤ m) := Lib.hid (sn_le _ _)
  have HN := Lib.hid (fun v w' (hs : Se w' v (m : Int) (redR m (tms m (fun i => l.getD i 0)) m) (redn m (tms m (fun i => l.getD i 0)) m)) => numbersE (m : Int) v _ _ w' h hs (fun i _ => redR_el m _ h (tms_el h hel) _ _) (by have := HK.out; omega))
  obtain ⟨a, cap, rfl⟩ := hv.form
  clear hv ha h hel
  rw [hlm] at *
  clear hlm
  generalize redR m (tms m (fun i => l.getD i 0)) m = R at *
  generalize redn m (tms m (fun i => l.getD i 0)) m = k at *
  generalize (fun i => l.getD i 0) = c at *
  go_enter Tryz.func14, Tryz.ntmps14
  go_wp2_with fail
  refine (HF.out _).mono ?_
  rintro e w1 ⟨rfl, hb1⟩
  have hz1 := hb1.size
  have hbw1 : Below w.heap.size w (w1.alloc (ffblk (m : Int))) := by (repeat' (first | (with_reducible assumption) | (with_reducible exact Below.refl _ _) | (with_reducible refine below_drewN ?_ _) | (with_reducible refine Below.drew ?_) | (with_reducible refine Below.alloc ?_ ?_ _) | (with_reducible refine Below.setCell ?_ ?_ _) | (with_reducible refine Below.trans ?_ (Below.mono (by assumption) ?_)) | (with_reducible exact Nat.le_refl _) | (with_reducible assumption) | omega | (simp; omega) | (simp; done)))
  clear hb1
  go_wp2_with fail
  refine (HL.out _ hbw1).mono ?_
  rintro e w2 ⟨rfl, hb2⟩
  have hfb : w2.heap[w1.heap.size]? = some (ffblk (m : Int)) := (hb2.block _ (by simp)).trans (heap_alloc_new w1 _)
  have hbw2 : Below w.heap.size w w2 := hbw1.trans (hb2.mono hbw1.size)
  clear hbw1 hb2
  obtain ⟨f0, f1, f2, ff, fl0⟩ := cells3' hfb
  have HKEEP : Hid (∀ w', Below w2.heap.size w2 w' → w'.cell? ⟨w1.heap.size, 0, none⟩ = some (.int .i64 m) ∧ w'.cell? ⟨w1.heap.size, 1, none⟩ = some (.int .i64 (pr m)) ∧ w'.cell? ⟨w1.heap.size, 2, none⟩ = some (.int .i64 (pl m))) := Lib.hid fun w' hb => by
    obtain ⟨x0, x1, x2, _⟩ := cells3' ((hb.block _ fl0).trans hfb)
    exact ⟨x0, x1, x2⟩
  clear hfb
  go_wp2_with fail
  go_region_held3 (fun w' => w'.cell? ⟨w1.heap.size, 0, none⟩ = some (.int .i64 m) ∧ w'.cell? ⟨w1.heap.size, 1, none⟩ = some (.int .i64 (pr m)) ∧ w'.cell? ⟨w1.heap.size, 2, none⟩ = some (.int .i64 (pl m)))
    (exact HKEEP.out _ (by (try have hb3 := HB3.out); (try have hb4 := HB4.out); (try have hb5 := HB5.out); (repeat' (first | (with_reducible assumption) | (with_reducible exact Below.refl _ _) | (with_reducible refine below_drewN ?_ _) | (with_reducible refine Below.drew ?_) | (with_reducible refine Below.alloc ?_ ?_ _) | (with_reducible refine Below.setCell ?_ ?_ _) | (with_reducible refine Below.trans ?_ (Below.mono (by assumption) ?_)) | (with_reducible exact Nat.le_refl _) | (with_reducible assumption) | omega | (simp; omega) | (simp; done)))))
    (first
    | (go_at_call 93; refine (HM.out _ (by (repeat' (first | (with_reducible assumption) | (with_reducible exact Below.refl _ _) | (with_reducible refine below_drewN ?_ _) | (with_reducible refine Below.drew ?_) | (with_reducible refine Below.alloc ?_ ?_ _) | (with_reducible refine Below.setCell ?_ ?_ _) | (with_reducible refine Below.trans ?_ (Below.mono (by assumption) ?_)) | (with_reducible exact Nat.le_refl _) | (with_reducible assumption) | omega | (simp; omega) | (simp; done))))).mono ?_; rintro e w3 ⟨g3, rfl, hg3, hk3, he3, hb3⟩; have HSE3 : Hid (Se w3 (.slice (some ⟨g3, 0, none⟩) m m) (m : Int) c m) := Lib.hid ⟨g3, _, rfl, hk3.lt, he3⟩; clear hk3 he3; have hz3 := hb3.size; (try simp at hz3); have HB3 := Lib.hid hb3; clear hb3)
    | (go_at_call 92; refine (HPT.out _ _ HSE3.out).mono ?_; rintro e w4 ⟨g4, cp4, rfl, hg4, he4, hb4⟩; have HSE4 : Hid (Se w4 (.slice (some ⟨g4, 0, none⟩) k cp4) (m : Int) R k) := Lib.hid ⟨g4, _, rfl, hg4, he4⟩; clear he4; have hz4 := hb4.size; (try simp at hz4); have HB4 := Lib.hid hb4; clear hb4)
    | (go_at_call 95; refine (HN.out _ _ HSE4.out).mono ?_; rintro e w5 ⟨v5, rfl, hr5, hb5⟩; have HR5 := Lib.hid hr5; clear hr5; have hz5 := hb5.size; (try simp at hz5); have HB5 := Lib.hid hb5; clear hb5))
  all_goals
    go_wp2
    go_ret2
    have hb3 := HB3.out
    have hb4 := HB4.out
    have hb5 := HB5.out
    have hz0 := hbw2.size
    exact ⟨_, rfl, HR5.out.mono (by omega), by (repeat' (first | (with_reducible assumption) | (with_reducible exact Below.refl _ _) | (with_reducible refine below_drewN ?_ _) | (with_reducible refine Below.drew ?_) | (with_reducible refine Below.alloc ?_ ?_ _) | (with_reducible refine Below.setCell ?_ ?_ _) | (with_reducible refine Below.trans ?_ (Below.mono (by assumption) ?_)) | (with_reducible exact Nat.le_refl _) | (with_reducible assumption) | omega | (simp; omega) | (simp; done)))⟩

theorem key_PolyOf (q : Int) (l_t : List Int) (b_t : l_t.length ≤ 1048576) : ∃ (r : List Int) (o : Bool), r.length ≤ 1048576 ∧ (∀ (w : World) (v_t : Value) (_ : Sl w v_t l_t), Calls Tryz.prog 19 #[.int .i64 q, v_t] w fun e w' => ∃ v, e = .returned (.tuple #[v, .bool o]) ∧ Row w' w.heap.size v r ∧ Below w.heap.size w w') ∧
      (∀ (w : World) (v_t : Value) (_ : Sl w v_t l_t), Calls Tryz.prog 14 #[.int .i64 q, v_t] w fun e w' => ∃ v, e = .returned (.tuple #[v, .bool o]) ∧ Row w' w.heap.size v r ∧ Below w.heap.size w w') := by
  cases h : isSz q && tabl q l_t with
  | false =>
    refine ⟨[], false, by simp, fun w v hv => (spec_PolyOf_no q v l_t w hv b_t h).mono fun _ _ ⟨he, hb⟩ => ⟨_, he, Row.nil _ _, hb⟩, fun w v hv => ?_⟩
    cases hs : isSz q with
    | false => exact (impl_PolyOf_no1 q v w hs).mono fun _ _ ⟨he, hb⟩ => ⟨_, he, Row.nil _ _, hb⟩
    | true =>
      rw [hs] at h
      exact (impl_PolyOf_no2 q v l_t w hs hv b_t h).mono fun _ _ ⟨he, hb⟩ => ⟨_, he, Row.nil _ _, hb⟩
  | true =>
    simp only [Bool.and_eq_true] at h
    have hq := isSz_le q h.1
    obtain ⟨m, rfl⟩ := Int.eq_ofNat_of_zero_le (show 0 ≤ q by omega)
    have hsame := from_same h.1 (all_el h.1 (tabl_parts h.2).2)
    refine ⟨_, true, ?_, fun w v hv => spec_PolyOf_yes m v l_t w h.1 hv h.2, fun w v hv => ?_⟩
    · rw [fl_len]
      have := sn_le (ipl m (fun i => l_t.getD i 0) m) m
      omega
    · rw [← hsame]
      exact impl_PolyOf_yes m v l_t w h.1 hv h.2
end Go.Proofs.YtljijnanmpajaaaGreat
