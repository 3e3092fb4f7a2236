/- AdditiveOf and CoefficientsOf, of both, by contracts; the walks of their laws. -/
import Derived.Test.YtgndlpdcebmgmabRD
import Derived.Test.YtgndlpdcebmgmabRE
import Derived.Deep.RegionHeld3
namespace Go.Proofs.Ytgndlpdcebmgmab
open Go.RowKit
/-- A list of coefficients. -/
def coL (q : Int) (l : List Int) : Bool := isSz q && (decide (l.length = plN q) && l.all (inF q))
theorem ne_int {a b : Nat} (h : a ≠ b) : ((a : Int) != (b : Int)) = true := bne_iff_ne.2 (by omega)
theorem eq_int {a b : Nat} (h : a = b) : ((a : Int) != (b : Int)) = false := by subst h; exact bne_self_eq_false _
theorem spec_AdditiveOf_no1 (q : Int) (v : Value) (w : World) (h : isSz q = false) :
    Calls Try.prog 29 #[.int .i64 q, v] w fun e w' => e = .returned (.tuple #[.slice none 0 0, .bool false]) ∧ Below w.heap.size w w' := by
  have HS := Lib.hid (fun w => by have := fdSize_any q w; rw [h] at this; exact this)
  clear h
  go_enter Try.func29, Try.ntmps29
  go_wp2_with fail
  refine (HS.out _).mono ?_
  rintro e w1 ⟨rfl, hb1⟩
  go_wp2
  go_ret2
  exact ⟨rfl, hb1⟩
set_option maxRecDepth 100000 in
set_option maxHeartbeats 4000000 in
theorem spec_AdditiveOf_no2 (m : Nat) (v : Value) (l : List Int) (w : World) (h : isSz (m : Int) = true) (hv : Sl w v l) (hn : l.length ≠ plN m) :
    Calls Try.prog 29 #[.int .i64 m, v] w fun e w' => e = .returned (.tuple #[.slice none 0 0, .bool false]) ∧ Below w.heap.size w w' := by
  have HS := Lib.hid (fun w => by have := fdSize_any (m : Int) w; rw [h] at this; exact this)
  have HPR := Lib.hid (fun w => fdPrime_any (m : Int) w h)
  have hpl : pl (m : Int) = ((plN (m : Int) : Nat) : Int) := rfl
  obtain ⟨a, cap, rfl⟩ := hv.form
  have hne : ((l.length : Int) != ((plN (m : Int) : Nat) : Int)) = true := ne_int hn
  clear hv h hn
  generalize plN (m : Int) = k at *
  generalize hnn : l.length = n at *
  clear hnn
  go_enter Try.func29, Try.ntmps29
  go_wp2_with fail
  refine (HS.out _).mono ?_
  rintro e w1 ⟨rfl, hb1⟩
  have hz1 := hb1.size
  have HB1 := Lib.hid hb1; clear hb1
  go_wp2_with fail
  refine (HPR.out _).mono ?_
  rintro e _ ⟨rfl, rfl⟩
  rw [hpl]
  clear hpl
  go_wp2
  go_ret2
  exact ⟨rfl, HB1.out⟩
set_option maxRecDepth 100000 in
set_option maxHeartbeats 4000000 in
theorem spec_AdditiveOf_no3 (m : Nat) (v : Value) (l : List Int) (w : World) (h : isSz (m : Int) = true) (hv : Sl w v l) (hn : l.length = plN m) (ha : l.all (inF m) = false) :
    Calls Try.prog 29 #[.int .i64 m, v] w fun e w' => e = .returned (.tuple #[.slice none 0 0, .bool false]) ∧ Below w.heap.size w w' := by
  have hq := isSz_le (m : Int) h
  have hkb := plN_bd (m : Int) h
  have HS := Lib.hid (fun w => by have := fdSize_any (m : Int) w; rw [h] at this; exact this)
  have HPR := Lib.hid (fun w => fdPrime_any (m : Int) w h)
  have hpl : pl (m : Int) = ((plN (m : Int) : Nat) : Int) := rfl
  have HL := Lib.hid (fun w' (hb : Below w.heap.size w w') => by
    have := l1All_any v l 0 ((m : Int) - 1) w' (hv.below hb (Nat.le_refl _)) (by omega)
    rw [all_inF, ha] at this
    exact this)
  obtain ⟨a, cap, rfl⟩ := hv.form
  rw [hn] at *
  clear hv h hn ha
  generalize plN (m : Int) = k at *
  go_enter Try.func29, Try.ntmps29
  go_wp2_with fail
  refine (HS.out _).mono ?_
  rintro e w1 ⟨rfl, hb1⟩
  have hz1 := hb1.size
  have HB1 := Lib.hid hb1; clear hb1
  go_wp2_with fail
  refine (HPR.out _).mono ?_
  rintro e _ ⟨rfl, rfl⟩
  rw [hpl]
  clear hpl
  go_wp2_with fail
  refine (HL.out _ HB1.out).mono ?_
  rintro e _ ⟨rfl, rfl⟩
  go_wp2
  go_ret2
  exact ⟨rfl, HB1.out⟩
set_option maxRecDepth 100000 in
set_option maxHeartbeats 4000000 in
theorem spec_AdditiveOf_yes (m : Nat) (v : Value) (l : List Int) (w : World) (h : isSz (m : Int) = true) (hv : Sl w v l) (hn : l.length = plN m) (ha : l.all (inF m) = true) :
    Calls Try.prog 29 #[.int .i64 m, v] w fun e w' => ∃ v', e = .returned (.tuple #[v', .bool true]) ∧ Row w' w.heap.size v' (adl m (fun i => l.getD i 0)) ∧ Below w.heap.size w w' := by
  have hq := isSz_le (m : Int) h
  have hkb := plN_bd (m : Int) h
  have HS := Lib.hid (fun w => by have := fdSize_any (m : Int) w; rw [h] at this; exact this)
  have HPR := Lib.hid (fun w => fdPrime_any (m : Int) w h)
  have hpl : pl (m : Int) = ((plN (m : Int) : Nat) : Int) := rfl
  have HL := Lib.hid (fun w' (hb : Below w.heap.size w w') => by
    have := l1All_any v l 0 ((m : Int) - 1) w' (hv.below hb (Nat.le_refl _)) (by omega)
    rw [all_inF, ha] at this
    exact this)
  have HO := Lib.hid (fun w' (hb : Below w.heap.size w w') => adOf_any m v (fun i => l.getD i 0) w' h (by
    have := (hv.below hb (Nat.le_refl _)).tell
    rwa [hn] at this))
  obtain ⟨a, cap, rfl⟩ := hv.form
  rw [hn] at *
  clear hv h hn ha
  generalize adl m (fun i => l.getD i 0) = r at *
  generalize plN (m : Int) = k at *
  go_enter Try.func29, Try.ntmps29
  go_wp2_with fail
  refine (HS.out _).mono ?_
  rintro e w1 ⟨rfl, hb1⟩
  have hz1 := hb1.size
  have HB1 := Lib.hid hb1; clear hb1
  go_wp2_with fail
  refine (HPR.out _).mono ?_
  rintro e _ ⟨rfl, rfl⟩
  rw [hpl]
  clear hpl
  go_wp2_with fail
  refine (HL.out _ HB1.out).mono ?_
  rintro e _ ⟨rfl, rfl⟩
  go_wp2_with fail
  refine (HO.out _ HB1.out).mono ?_
  rintro e w2 ⟨v2, rfl, hr2, hb2⟩
  have HR2 := Lib.hid hr2
  have HB2 := Lib.hid hb2
  clear hr2 hb2
  go_wp2
  go_ret2
  exact ⟨_, rfl, HR2.out.mono hz1, HB1.out.trans (HB2.out.mono hz1)⟩
theorem impl_AdditiveOf_no1 (q : Int) (v : Value) (w : World) (h : isSz q = false) :
    Calls Try.prog 30 #[.int .i64 q, v] w fun e w' => e = .returned (.tuple #[.slice none 0 0, .bool false]) ∧ Below w.heap.size w w' := by
  have HF := Lib.hid (fun w => fieldOf_no q w h)
  clear h
  go_enter Try.func30, Try.ntmps30
  go_wp2_with fail
  refine (HF.out _).mono ?_
  rintro e w1 ⟨rfl, hb1⟩
  have hz_hb1 := hb1.size; (try simp at hz_hb1)
  have HB1 := Lib.hid hb1; clear hb1
  go_wp2_with fail
  go_ret2
  have hb1 := HB1.out
  exact ⟨rfl, by (repeat' (first | (with_reducible assumption) | (with_reducible exact Below.refl _ _) | (with_reducible refine below_drewN ?_ _) | (with_reducible refine Below.drew ?_) | (with_reducible refine Below.alloc ?_ ?_ _) | (with_reducible refine Below.setCell ?_ ?_ _) | (with_reducible refine Below.trans ?_ (Below.mono (by assumption) ?_)) | (with_reducible exact Nat.le_refl _) | (with_reducible assumption) | omega | (simp; omega) | (simp; done)))⟩
set_option maxRecDepth 100000 in
set_option maxHeartbeats 4000000 in
theorem impl_AdditiveOf_no2 (m : Nat) (v : Value) (l : List Int) (w : World) (h : isSz (m : Int) = true) (hv : Sl w v l) (hn : l.length ≠ plN m) :
    Calls Try.prog 30 #[.int .i64 m, v] w fun e w' => e = .returned (.tuple #[.slice none 0 0, .bool false]) ∧ Below w.heap.size w w' := by
  have HF := Lib.hid (fun w => fieldOf_yes (m : Int) w h)
  have hne : ((l.length : Int) != pl (m : Int)) = true := ne_int hn
  obtain ⟨a, cap, rfl⟩ := hv.form
  clear hv h hn
  generalize hnn : l.length = n at *
  clear hnn
  go_enter Try.func30, Try.ntmps30
  go_wp2_with fail
  refine (HF.out _).mono ?_
  rintro e w1 ⟨rfl, hb1⟩
  have hz_hb1 := hb1.size; (try simp at hz_hb1)
  have HB1 := Lib.hid hb1; clear hb1
  go_wp2_with fail
  go_ret2
  have hb1 := HB1.out
  exact ⟨rfl, by (repeat' (first | (with_reducible assumption) | (with_reducible exact Below.refl _ _) | (with_reducible refine below_drewN ?_ _) | (with_reducible refine Below.drew ?_) | (with_reducible refine Below.alloc ?_ ?_ _) | (with_reducible refine Below.setCell ?_ ?_ _) | (with_reducible refine Below.trans ?_ (Below.mono (by assumption) ?_)) | (with_reducible exact Nat.le_refl _) | (with_reducible assumption) | omega | (simp; omega) | (simp; done)))⟩
set_option maxRecDepth 100000 in
set_option maxHeartbeats 4000000 in
theorem impl_AdditiveOf_no3 (m : Nat) (v : Value) (l : List Int) (w : World) (h : isSz (m : Int) = true) (hv : Sl w v l) (hn : l.length = plN m) (ha : l.all (inF m) = false) :
    Calls Try.prog 30 #[.int .i64 m, v] w fun e w' => e = .returned (.tuple #[.slice none 0 0, .bool false]) ∧ Below w.heap.size w w' := by
  have hkb := plN_bd (m : Int) h
  have HF := Lib.hid (fun w => fieldOf_yes (m : Int) w h)
  have HL := Lib.hid (fun w' (hb : Below w.heap.size w w') => by
    have := hasAll_any (m : Int) v l w' (hv.below hb (Nat.le_refl _)) (by omega)
    rw [ha] at this
    exact this)
  obtain ⟨a, cap, rfl⟩ := hv.form
  have hne : ((l.length : Int) != pl (m : Int)) = false := eq_int hn
  clear hv h hn ha
  generalize hnn : l.length = n at *
  clear hnn
  go_enter Try.func30, Try.ntmps30
  go_wp2_with fail
  refine (HF.out _).mono ?_
  rintro e w1 ⟨rfl, hb1⟩
  have hz_hb1 := hb1.size; (try simp at hz_hb1)
  have HB1 := Lib.hid hb1; clear hb1
  go_wp2_with fail
  refine (HL.out _ (by have hb1 := HB1.out; (repeat' (first | (with_reducible assumption) | (with_reducible exact Below.refl _ _) | (with_reducible refine below_drewN ?_ _) | (with_reducible refine Below.drew ?_) | (with_reducible refine Below.alloc ?_ ?_ _) | (with_reducible refine Below.setCell ?_ ?_ _) | (with_reducible refine Below.trans ?_ (Below.mono (by assumption) ?_)) | (with_reducible exact Nat.le_refl _) | (with_reducible assumption) | omega | (simp; omega) | (simp; done))))).mono ?_
  rintro e w2 ⟨rfl, hb2⟩
  have HB2 := Lib.hid hb2; clear hb2
  go_wp2_with fail
  go_ret2
  have hb1 := HB1.out
  have hb2 := HB2.out
  exact ⟨rfl, by (repeat' (first | (with_reducible assumption) | (with_reducible exact Below.refl _ _) | (with_reducible refine below_drewN ?_ _) | (with_reducible refine Below.drew ?_) | (with_reducible refine Below.alloc ?_ ?_ _) | (with_reducible refine Below.setCell ?_ ?_ _) | (with_reducible refine Below.trans ?_ (Below.mono (by assumption) ?_)) | (with_reducible exact Nat.le_refl _) | (with_reducible assumption) | omega | (simp; omega) | (simp; done)))⟩
set_option maxRecDepth 100000 in
set_option maxHeartbeats 4000000 in
theorem impl_AdditiveOf_yes (m : Nat) (v : Value) (l : List Int) (w : World) (h : isSz (m : Int) = true) (hv : Sl w v l) (hn : l.length = plN m) (ha : l.all (inF m) = true) :
    Calls Try.prog 30 #[.int .i64 m, v] w fun e w' => ∃ v', e = .returned (.tuple #[v', .bool true]) ∧ Row w' w.heap.size v' (adl m (fun i => l.getD i 0)) ∧ Below w.heap.size w w' := by
  have hq := isSz_le (m : Int) h
  have hkb := plN_bd (m : Int) h
  have HF := Lib.hid (fun w => fieldOf_yes (m : Int) w h)
  have HL := Lib.hid (fun w' (hb : Below w.heap.size w w') => by
    have := hasAll_any (m : Int) v l w' (hv.below hb (Nat.le_refl _)) (by omega)
    rw [ha] at this
    exact this)
  have HM := Lib.hid (fun w' (hb : Below w.heap.size w w') => by have := mappedIE (m : Int) v l w' h (hv.below hb (Nat.le_refl _)) ha (by omega); exact this)
  have hel := all_el h ha
  have HAW := Lib.hid (fun v w' (hs : Se w' v (m : Int) (fun i => l.getD i 0) l.length) => additiveWithE m v (fun i => l.getD i 0) w' h (by rwa [hn] at hs) (fun i _ => hel i))
  have hpe := plc_el h (plN m) (c := fun i => l.getD i 0) (fun i _ => hel i)
  have HK : Hid (redn m (plc m (fun i => l.getD i 0) (plN m)) m ≤ m) := Lib.hid (sn_le _ _)
  have HN := Lib.hid (fun v w' (hs : Se w' v (m : Int) (redR m (plc m (fun i => l.getD i 0) (plN m)) m) (redn m (plc m (fun i => l.getD i 0) (plN m)) m)) => by
    have := numbersE (m : Int) v _ _ w' h hs (fun i _ => redR_el m _ h hpe _ _) (by have := HK.out; omega)
    rw [red_whole h hpe] at this
    exact this)
  unfold adl
  obtain ⟨a, cap, rfl⟩ := hv.form
  have hne : ((l.length : Int) != pl (m : Int)) = false := eq_int hn
  clear hv h hn ha hel hpe
  generalize fl (plc m (fun i => l.getD i 0) (plN m)) (sn (plc m (fun i => l.getD i 0) (plN m)) m) = r at *
  generalize redR m (plc m (fun i => l.getD i 0) (plN m)) m = R at *
  generalize redn m (plc m (fun i => l.getD i 0) (plN m)) m = K at *
  generalize (fun i => l.getD i 0) = c at *
  generalize hnn : l.length = n at *
  clear hnn
  go_enter Try.func30, Try.ntmps30
  go_wp2_with fail
  refine (HF.out _).mono ?_
  rintro e w1 ⟨rfl, hb1⟩
  have hz1 := hb1.size
  have hbw1 : Below w.heap.size w (w1.alloc (ffblk (m : Int))) := by (repeat' (first | (with_reducible assumption) | (with_reducible exact Below.refl _ _) | (with_reducible refine below_drewN ?_ _) | (with_reducible refine Below.drew ?_) | (with_reducible refine Below.alloc ?_ ?_ _) | (with_reducible refine Below.setCell ?_ ?_ _) | (with_reducible refine Below.trans ?_ (Below.mono (by assumption) ?_)) | (with_reducible exact Nat.le_refl _) | (with_reducible assumption) | omega | (simp; omega) | (simp; done)))
  clear hb1
  go_wp2_with fail
  refine (HL.out _ hbw1).mono ?_
  rintro e w2 ⟨rfl, hb2⟩
  have hfb : w2.heap[w1.heap.size]? = some (ffblk (m : Int)) := (hb2.block _ (by simp)).trans (heap_alloc_new w1 _)
  have hbw2 : Below w.heap.size w w2 := hbw1.trans (hb2.mono hbw1.size)
  clear hbw1 hb2
  obtain ⟨f0, f1, f2, ff, fl0⟩ := cells3' hfb
  have HKEEP : Hid (∀ w', Below w2.heap.size w2 w' → w'.cell? ⟨w1.heap.size, 0, none⟩ = some (.int .i64 m) ∧ w'.cell? ⟨w1.heap.size, 1, none⟩ = some (.int .i64 (pr m)) ∧ w'.cell? ⟨w1.heap.size, 2, none⟩ = some (.int .i64 (pl m))) := Lib.hid fun w' hb => by
    obtain ⟨x0, x1, x2, _⟩ := cells3' ((hb.block _ fl0).trans hfb)
    exact ⟨x0, x1, x2⟩
  clear hfb
  go_wp2_with fail
  go_region_held3 (fun w' => w'.cell? ⟨w1.heap.size, 0, none⟩ = some (.int .i64 m) ∧ w'.cell? ⟨w1.heap.size, 1, none⟩ = some (.int .i64 (pr m)) ∧ w'.cell? ⟨w1.heap.size, 2, none⟩ = some (.int .i64 (pl m)))
    (exact HKEEP.out _ (by (try have hb3 := HB3.out); (try have hb4 := HB4.out); (try have hb5 := HB5.out); (repeat' (first | (with_reducible assumption) | (with_reducible exact Below.refl _ _) | (with_reducible refine below_drewN ?_ _) | (with_reducible refine Below.drew ?_) | (with_reducible refine Below.alloc ?_ ?_ _) | (with_reducible refine Below.setCell ?_ ?_ _) | (with_reducible refine Below.trans ?_ (Below.mono (by assumption) ?_)) | (with_reducible exact Nat.le_refl _) | (with_reducible assumption) | omega | (simp; omega) | (simp; done)))))
    (first
    | (go_at_call 71; refine (HM.out _ (by (repeat' (first | (with_reducible assumption) | (with_reducible exact Below.refl _ _) | (with_reducible refine below_drewN ?_ _) | (with_reducible refine Below.drew ?_) | (with_reducible refine Below.alloc ?_ ?_ _) | (with_reducible refine Below.setCell ?_ ?_ _) | (with_reducible refine Below.trans ?_ (Below.mono (by assumption) ?_)) | (with_reducible exact Nat.le_refl _) | (with_reducible assumption) | omega | (simp; omega) | (simp; done))))).mono ?_; rintro e w3 ⟨g3, rfl, hg3, hk3, he3, hb3⟩; have HSE3 : Hid (Se w3 (.slice (some ⟨g3, 0, none⟩) n n) (m : Int) c n) := Lib.hid ⟨g3, _, rfl, hk3.lt, he3⟩; clear hk3 he3; have hz3 := hb3.size; (try simp at hz3); have HB3 := Lib.hid hb3; clear hb3)
    | (go_at_call 70; refine (HAW.out _ _ HSE3.out).mono ?_; rintro e w4 ⟨g4, cp4, rfl, hg4, he4, hb4⟩; have HSE4 : Hid (Se w4 (.slice (some ⟨g4, 0, none⟩) K cp4) (m : Int) R K) := Lib.hid ⟨g4, _, rfl, hg4, he4⟩; clear he4; have hz4 := hb4.size; (try simp at hz4); have HB4 := Lib.hid hb4; clear hb4)
    | (go_at_call 51; refine (HN.out _ _ HSE4.out).mono ?_; rintro e w5 ⟨v5, rfl, hr5, hb5⟩; have HR5 := Lib.hid hr5; clear hr5; have hz5 := hb5.size; (try simp at hz5); have HB5 := Lib.hid hb5; clear hb5))
  all_goals
    go_wp2
    go_ret2
    have hb3 := HB3.out
    have hb4 := HB4.out
    have hb5 := HB5.out
    have hz0 := hbw2.size
    exact ⟨_, rfl, HR5.out.mono (by omega), by (repeat' (first | (with_reducible assumption) | (with_reducible exact Below.refl _ _) | (with_reducible refine below_drewN ?_ _) | (with_reducible refine Below.drew ?_) | (with_reducible refine Below.alloc ?_ ?_ _) | (with_reducible refine Below.setCell ?_ ?_ _) | (with_reducible refine Below.trans ?_ (Below.mono (by assumption) ?_)) | (with_reducible exact Nat.le_refl _) | (with_reducible assumption) | omega | (simp; omega) | (simp; done)))⟩
theorem key_AdditiveOf (q : Int) (l_a : List Int) (_b_a : l_a.length ≤ 1048576) : ∃ (r : List Int) (o : Bool), r.length ≤ 1048576 ∧ (∀ (w : World) (v_a : Value) (_ : Sl w v_a l_a), Calls Try.prog 29 #[.int .i64 q, v_a] w fun e w' => ∃ v, e = .returned (.tuple #[v, .bool o]) ∧ Row w' w.heap.size v r ∧ Below w.heap.size w w') ∧
      (∀ (w : World) (v_a : Value) (_ : Sl w v_a l_a), Calls Try.prog 30 #[.int .i64 q, v_a] w fun e w' => ∃ v, e = .returned (.tuple #[v, .bool o]) ∧ Row w' w.heap.size v r ∧ Below w.heap.size w w') := by
  cases h : isSz q with
  | false => exact ⟨[], false, by simp, fun w v hv => (spec_AdditiveOf_no1 q v w h).mono (by rintro e w' ⟨rfl, hb⟩; exact ⟨_, rfl, Row.nil _ _, hb⟩), fun w v hv => (impl_AdditiveOf_no1 q v w h).mono (by rintro e w' ⟨rfl, hb⟩; exact ⟨_, rfl, Row.nil _ _, hb⟩)⟩
  | true =>
    have hq := isSz_le q h
    obtain ⟨m, rfl⟩ := Int.eq_ofNat_of_zero_le (show 0 ≤ q by omega)
    by_cases hn : l_a.length = plN m
    · cases ha : l_a.all (inF m) with
      | false => exact ⟨[], false, by simp, fun w v hv => (spec_AdditiveOf_no3 m v l_a w h hv hn ha).mono (by rintro e w' ⟨rfl, hb⟩; exact ⟨_, rfl, Row.nil _ _, hb⟩), fun w v hv => (impl_AdditiveOf_no3 m v l_a w h hv hn ha).mono (by rintro e w' ⟨rfl, hb⟩; exact ⟨_, rfl, Row.nil _ _, hb⟩)⟩
      | true => exact ⟨_, true, Nat.le_trans (adl_len _ _) (by omega), fun w v hv => spec_AdditiveOf_yes m v l_a w h hv hn ha, fun w v hv => impl_AdditiveOf_yes m v l_a w h hv hn ha⟩
    · exact ⟨[], false, by simp, fun w v hv => (spec_AdditiveOf_no2 m v l_a w h hv hn).mono (by rintro e w' ⟨rfl, hb⟩; exact ⟨_, rfl, Row.nil _ _, hb⟩), fun w v hv => (impl_AdditiveOf_no2 m v l_a w h hv hn).mono (by rintro e w' ⟨rfl, hb⟩; exact ⟨_, rfl, Row.nil _ _, hb⟩)⟩
set_option maxRecDepth 100000 in
set_option maxHeartbeats 4000000 in
/-- laws.FnExactAdditiveOf. -/
theorem walk_FnExactAdditiveOf (q : Int) (a_a : Option Addr) (n_a c_a : Nat) (z_a : List Int) (w : World) (_h_q : (Lit.int .i64 q).wf = true) (h_a : IsRow .i64 w a_a n_a c_a z_a) :
    Calls Try.prog 9 #[.int .i64 q, .slice a_a n_a c_a] w fun e w' => e = .returned (.bool true) ∧ Below w.heap.size w w' := by
  clear _h_q
  obtain ⟨hs_a, hl_a, _⟩ := h_a.sl
  generalize z_a.take n_a = l_a at *
  clear h_a
  subst hl_a
  by_cases b_a : l_a.length ≤ 1048576
  rotate_left
  · have hn_a : (1048576 : Int) < (l_a.length : Int) := by omega
    go_enter Try.func9, Try.ntmps9
    go_wp2
    go_ret
    exact ⟨rfl, Below.refl _ _⟩
  have hn_a : ¬ (1048576 : Int) < (l_a.length : Int) := by omega
  obtain ⟨r, o, hr, k1, k2⟩ := key_AdditiveOf q l_a b_a
  have K1 := Lib.hid k1; clear k1
  have K2 := Lib.hid k2; clear k2
  have HS_a := Lib.hid hs_a; clear hs_a
  have HB0 : Hid (Below w.heap.size w w) := Lib.hid (Below.refl _ _)
  go_enter Try.func9, Try.ntmps9
  go_wp2_with fail
  refine (toIntS_any _ l_a _ (HS_a.out.below HB0.out (Nat.le_refl _)) b_a).mono ?_
  rintro e w1 ⟨v_s_a, rfl, hrw1, hbw1⟩
  have hzw1 : w.heap.size ≤ w1.heap.size := hbw1.size
  have HBw1 : Hid (Below w.heap.size w w1) := Lib.hid (HB0.out.trans (hbw1.mono HB0.out.size))
  have hww1 := HBw1.out.size
  clear hbw1 HB0
  have R_s_a_w1 := Lib.hid hrw1; clear hrw1
  have lt_s_a : Hid (∀ g, v_s_a.ownBlock = some g → w.heap.size ≤ g ∧ g < w1.heap.size) := Lib.hid R_s_a_w1.out.lt
  go_wp2_with fail
  refine (K1.out _ v_s_a R_s_a_w1.out.sl).mono ?_
  rintro e w2 ⟨v_sp, rfl, hrw2, hbw2⟩
  have hzw2 : w1.heap.size ≤ w2.heap.size := hbw2.size
  have R_s_a_w2 := Lib.hid (R_s_a_w1.out.below hbw2)
  clear R_s_a_w1
  have HBw2 : Hid (Below w.heap.size w w2) := Lib.hid (HBw1.out.trans (hbw2.mono HBw1.out.size))
  have hww2 := HBw2.out.size
  clear hbw2 HBw1
  have R_sp_w2 := Lib.hid hrw2; clear hrw2
  have lt_sp : Hid (∀ g, v_sp.ownBlock = some g → w1.heap.size ≤ g ∧ g < w2.heap.size) := Lib.hid R_sp_w2.out.lt
  clear R_s_a_w2 lt_s_a
  go_wp2_with fail
  refine (toIntS_any _ l_a _ (HS_a.out.below HBw2.out (Nat.le_refl _)) b_a).mono ?_
  rintro e w3 ⟨v_x_a, rfl, hrw3, hbw3⟩
  have hzw3 : w2.heap.size ≤ w3.heap.size := hbw3.size
  have R_sp_w3 := Lib.hid (R_sp_w2.out.below hbw3)
  clear R_sp_w2
  have HBw3 : Hid (Below w.heap.size w w3) := Lib.hid (HBw2.out.trans (hbw3.mono HBw2.out.size))
  have hww3 := HBw3.out.size
  clear hbw3 HBw2
  have R_x_a_w3 := Lib.hid hrw3; clear hrw3
  have lt_x_a : Hid (∀ g, v_x_a.ownBlock = some g → w2.heap.size ≤ g ∧ g < w3.heap.size) := Lib.hid R_x_a_w3.out.lt
  go_wp2_with fail
  refine (K2.out _ v_x_a R_x_a_w3.out.sl).mono ?_
  rintro e w4 ⟨v_im, rfl, hrw4, hbw4⟩
  have hzw4 : w3.heap.size ≤ w4.heap.size := hbw4.size
  have R_sp_w4 := Lib.hid (R_sp_w3.out.below hbw4)
  clear R_sp_w3
  have R_x_a_w4 := Lib.hid (R_x_a_w3.out.below hbw4)
  clear R_x_a_w3
  have HBw4 : Hid (Below w.heap.size w w4) := Lib.hid (HBw3.out.trans (hbw4.mono HBw3.out.size))
  have hww4 := HBw4.out.size
  clear hbw4 HBw3
  have R_im_w4 := Lib.hid hrw4; clear hrw4
  have lt_im : Hid (∀ g, v_im.ownBlock = some g → w3.heap.size ≤ g ∧ g < w4.heap.size) := Lib.hid R_im_w4.out.lt
  go_wp2_with fail
  refine (eq_same v_im v_sp r _ _ _ R_im_w4.out R_sp_w4.out (by omega)).mono ?_
  rintro e w5 ⟨rfl, hbw5⟩
  have hzw5 : w4.heap.size ≤ w5.heap.size := hbw5.size
  have R_sp_w5 := Lib.hid (R_sp_w4.out.below hbw5)
  clear R_sp_w4
  have R_x_a_w5 := Lib.hid (R_x_a_w4.out.below hbw5)
  clear R_x_a_w4
  have R_im_w5 := Lib.hid (R_im_w4.out.below hbw5)
  clear R_im_w4
  have HBw5 : Hid (Below w.heap.size w w5) := Lib.hid (HBw4.out.trans (hbw5.mono HBw4.out.size))
  have hww5 := HBw5.out.size
  clear hbw5 HBw4
  go_wp2_with fail
  refine (toIntS_any _ l_a _ (HS_a.out.below HBw5.out (Nat.le_refl _)) b_a).mono ?_
  rintro e w6 ⟨v_y_a, rfl, hrw6, hbw6⟩
  have hzw6 : w5.heap.size ≤ w6.heap.size := hbw6.size
  have R_sp_w6 := Lib.hid (R_sp_w5.out.below hbw6)
  clear R_sp_w5
  have R_x_a_w6 := Lib.hid (R_x_a_w5.out.below hbw6)
  clear R_x_a_w5
  have R_im_w6 := Lib.hid (R_im_w5.out.below hbw6)
  clear R_im_w5
  have HBw6 : Hid (Below w.heap.size w w6) := Lib.hid (HBw5.out.trans (hbw6.mono HBw5.out.size))
  have hww6 := HBw6.out.size
  clear hbw6 HBw5
  have R_y_a_w6 := Lib.hid hrw6; clear hrw6
  have lt_y_a : Hid (∀ g, v_y_a.ownBlock = some g → w5.heap.size ≤ g ∧ g < w6.heap.size) := Lib.hid R_y_a_w6.out.lt
  go_wp2_with fail
  refine (eq_same v_x_a v_y_a l_a _ _ _ R_x_a_w6.out R_y_a_w6.out (by omega)).mono ?_
  rintro e w7 ⟨rfl, hbw7⟩
  have hzw7 : w6.heap.size ≤ w7.heap.size := hbw7.size
  have R_sp_w7 := Lib.hid (R_sp_w6.out.below hbw7)
  clear R_sp_w6
  have R_x_a_w7 := Lib.hid (R_x_a_w6.out.below hbw7)
  clear R_x_a_w6
  have R_im_w7 := Lib.hid (R_im_w6.out.below hbw7)
  clear R_im_w6
  have R_y_a_w7 := Lib.hid (R_y_a_w6.out.below hbw7)
  clear R_y_a_w6
  have HBw7 : Hid (Below w.heap.size w w7) := Lib.hid (HBw6.out.trans (hbw7.mono HBw6.out.size))
  have hww7 := HBw7.out.size
  clear hbw7 HBw6
  clear R_y_a_w7 lt_y_a
  go_wp2_with fail
  refine (mark_any v_x_a l_a _ (1) _ R_x_a_w7.out (by omega) (by omega) (by omega)).mono ?_
  rintro e w8 ⟨rfl, hrw8, hgw8⟩
  have hzw8 : w7.heap.size ≤ w8.heap.size := hgw8.size
  have R_sp_w8 := Lib.hid (R_sp_w7.out.keep (w' := w8) fun g hg => hgw8.block g (R_sp_w7.out.lt g hg).2 fun e => by have h1 := lt_sp.out g hg; have h2 := lt_x_a.out g e.symm; omega)
  clear R_sp_w7
  have R_im_w8 := Lib.hid (R_im_w7.out.keep (w' := w8) fun g hg => hgw8.block g (R_im_w7.out.lt g hg).2 fun e => by have h1 := lt_im.out g hg; have h2 := lt_x_a.out g e.symm; omega)
  clear R_im_w7
  have HBw8 : Hid (Below w.heap.size w w8) := Lib.hid (Below.grown HBw7.out hgw8 (by omega) (fun g e => by have h2 := lt_x_a.out g e; omega))
  have hww8 := HBw8.out.size
  have R_x_a_w8 := Lib.hid hrw8
  clear hrw8 hgw8 HBw7 R_x_a_w7
  clear R_x_a_w8 lt_x_a
  have hpos : ¬ (1 + (l_a.length : Int)) < (0 : Int) := by omega
  go_wp2_with fail
  refine (eq_same v_im v_sp r _ _ _ R_im_w8.out R_sp_w8.out (by omega)).mono ?_
  rintro e w9 ⟨rfl, hbw9⟩
  have hzw9 : w8.heap.size ≤ w9.heap.size := hbw9.size
  have R_sp_w9 := Lib.hid (R_sp_w8.out.below hbw9)
  clear R_sp_w8
  have R_im_w9 := Lib.hid (R_im_w8.out.below hbw9)
  clear R_im_w8
  have HBw9 : Hid (Below w.heap.size w w9) := Lib.hid (HBw8.out.trans (hbw9.mono HBw8.out.size))
  have hww9 := HBw9.out.size
  clear hbw9 HBw8
  go_wp2_with fail
  refine (mark_any v_im r _ (1) _ R_im_w9.out (by omega) (by omega) (by omega)).mono ?_
  rintro e w10 ⟨rfl, hrw10, hgw10⟩
  have hzw10 : w9.heap.size ≤ w10.heap.size := hgw10.size
  have R_sp_w10 := Lib.hid (R_sp_w9.out.keep (w' := w10) fun g hg => hgw10.block g (R_sp_w9.out.lt g hg).2 fun e => by have h1 := lt_sp.out g hg; have h2 := lt_im.out g e.symm; omega)
  clear R_sp_w9
  have HBw10 : Hid (Below w.heap.size w w10) := Lib.hid (Below.grown HBw9.out hgw10 (by omega) (fun g e => by have h2 := lt_im.out g e; omega))
  have hww10 := HBw10.out.size
  have R_im_w10 := Lib.hid hrw10
  clear hrw10 hgw10 HBw9 R_im_w9
  go_wp2_with fail
  refine (held_any v_im r.length _ (1) _ R_im_w10.out (by omega) (by omega) (by omega)).mono ?_
  rintro e wx1 ⟨rfl, rfl⟩
  go_wp2_with fail
  refine (toIntS_any _ l_a _ (HS_a.out.below HBw10.out (Nat.le_refl _)) b_a).mono ?_
  rintro e w11 ⟨v_t_a, rfl, hrw11, hbw11⟩
  have hzw11 : w10.heap.size ≤ w11.heap.size := hbw11.size
  have R_sp_w11 := Lib.hid (R_sp_w10.out.below hbw11)
  clear R_sp_w10
  have R_im_w11 := Lib.hid (R_im_w10.out.below hbw11)
  clear R_im_w10
  have HBw11 : Hid (Below w.heap.size w w11) := Lib.hid (HBw10.out.trans (hbw11.mono HBw10.out.size))
  have hww11 := HBw11.out.size
  clear hbw11 HBw10
  have R_t_a_w11 := Lib.hid hrw11; clear hrw11
  have lt_t_a : Hid (∀ g, v_t_a.ownBlock = some g → w10.heap.size ≤ g ∧ g < w11.heap.size) := Lib.hid R_t_a_w11.out.lt
  go_wp2_with fail
  refine (K2.out _ v_t_a R_t_a_w11.out.sl).mono ?_
  rintro e w12 ⟨v_im2, rfl, hrw12, hbw12⟩
  have hzw12 : w11.heap.size ≤ w12.heap.size := hbw12.size
  have R_sp_w12 := Lib.hid (R_sp_w11.out.below hbw12)
  clear R_sp_w11
  have R_im_w12 := Lib.hid (R_im_w11.out.below hbw12)
  clear R_im_w11
  have R_t_a_w12 := Lib.hid (R_t_a_w11.out.below hbw12)
  clear R_t_a_w11
  have HBw12 : Hid (Below w.heap.size w w12) := Lib.hid (HBw11.out.trans (hbw12.mono HBw11.out.size))
  have hww12 := HBw12.out.size
  clear hbw12 HBw11
  have R_im2_w12 := Lib.hid hrw12; clear hrw12
  have lt_im2 : Hid (∀ g, v_im2.ownBlock = some g → w11.heap.size ≤ g ∧ g < w12.heap.size) := Lib.hid R_im2_w12.out.lt
  clear R_t_a_w12 lt_t_a
  go_wp2_with fail
  refine (eq_same v_im2 v_sp r _ _ _ R_im2_w12.out R_sp_w12.out (by omega)).mono ?_
  rintro e w13 ⟨rfl, hbw13⟩
  have hzw13 : w12.heap.size ≤ w13.heap.size := hbw13.size
  have R_sp_w13 := Lib.hid (R_sp_w12.out.below hbw13)
  clear R_sp_w12
  have R_im_w13 := Lib.hid (R_im_w12.out.below hbw13)
  clear R_im_w12
  have R_im2_w13 := Lib.hid (R_im2_w12.out.below hbw13)
  clear R_im2_w12
  have HBw13 : Hid (Below w.heap.size w w13) := Lib.hid (HBw12.out.trans (hbw13.mono HBw12.out.size))
  have hww13 := HBw13.out.size
  clear hbw13 HBw12
  go_wp2_with fail
  refine (held_any v_im r.length _ (1) _ R_im_w13.out (by omega) (by omega) (by omega)).mono ?_
  rintro e wx2 ⟨rfl, rfl⟩
  go_wp2
  go_ret
  exact ⟨rfl, HBw13.out⟩
theorem adTable_off (q : Int) (v : Value) (l : List Int) (w : World) (hv : Sl w v l) (hl : l.length ≤ 1048576) (hg : addL q l = false) :
    Calls Try.prog 73 #[.int .i64 q, v] w fun e w' => ∃ v', e = .returned (.tuple #[v', .bool false]) ∧ Below w.heap.size w w' := by
  unfold addL at hg
  cases h : isSz q && good q l with
  | false => exact (adTable_no q v l w hv hl h).mono (by rintro e w' ⟨rfl, hb⟩; exact ⟨_, rfl, hb⟩)
  | true =>
    rw [h, Bool.true_and] at hg
    simp only [Bool.and_eq_true] at h
    have hq := isSz_le q h.1
    obtain ⟨m, rfl⟩ := Int.eq_ofNat_of_zero_le (show 0 ≤ q by omega)
    have := adTable_yes m v l w h.1 hv h.2
    rw [ad_list h.1 h.2, hg] at this
    exact this.mono (by rintro e w' ⟨v', rfl, hr, hb⟩; exact ⟨_, rfl, hb⟩)
theorem adTable_on (m : Nat) (v : Value) (l : List Int) (w : World) (h : isSz (m : Int) = true) (hv : Sl w v l) (hg : good (m : Int) l = true) (ha : adC m (fun i => l.getD i 0) 0 l.length = true) :
    Calls Try.prog 73 #[.int .i64 m, v] w fun e w' => ∃ v', e = .returned (.tuple #[v', .bool true]) ∧ Row w' w.heap.size v' (fl (tabF (m : Int) (fun i => l.getD i 0) l.length) m) ∧ Below w.heap.size w w' := by
  have := adTable_yes m v l w h hv hg
  rw [ad_list h hg, ha] at this
  exact this
theorem addL_parts {q : Int} {l : List Int} (h : addL q l = true) : ∃ m : Nat, q = (m : Int) ∧ isSz (m : Int) = true ∧ good (m : Int) l = true ∧ adC m (fun i => l.getD i 0) 0 l.length = true := by
  simp only [addL, Bool.and_eq_true] at h
  have hq := isSz_le q h.1.1
  obtain ⟨m, rfl⟩ := Int.eq_ofNat_of_zero_le (show 0 ≤ q by omega)
  exact ⟨m, rfl, h.1.1, h.1.2, h.2⟩
theorem spec_CoefficientsOf_no (q : Int) (v : Value) (l : List Int) (w : World) (hv : Sl w v l) (hl : l.length ≤ 1048576) (hg : addL q l = false) :
    Calls Try.prog 31 #[.int .i64 q, v] w fun e w' => e = .returned (.tuple #[.slice none 0 0, .bool false]) ∧ Below w.heap.size w w' := by
  obtain ⟨_, HP⟩ : ∃ _ : Unit, Hid (Calls Try.prog 73 #[.int .i64 q, v] w fun e w' => ∃ v', e = .returned (.tuple #[v', .bool false]) ∧ Below w.heap.size w w') := ⟨(), Lib.hid (adTable_off q v l w hv hl hg)⟩
  clear hg hv hl
  go_enter Try.func31, Try.ntmps31
  go_wp2_with fail
  refine HP.out.mono ?_
  rintro e w1 ⟨v', rfl, hb1⟩
  go_wp2
  go_ret2
  exact ⟨rfl, hb1⟩
theorem impl_CoefficientsOf_no (q : Int) (v : Value) (l : List Int) (w : World) (hv : Sl w v l) (hl : l.length ≤ 1048576) (hg : addL q l = false) :
    Calls Try.prog 32 #[.int .i64 q, v] w fun e w' => e = .returned (.tuple #[.slice none 0 0, .bool false]) ∧ Below w.heap.size w w' := by
  have HP := Lib.hid (validAdditive_no q v l w hv hl hg)
  clear hg hv hl
  go_enter Try.func32, Try.ntmps32
  go_wp2_with fail
  refine HP.out.mono ?_
  rintro e w1 ⟨rfl, hb1⟩
  have hz_hb1 := hb1.size; (try simp at hz_hb1)
  have HB1 := Lib.hid hb1; clear hb1
  go_wp2_with fail
  go_ret2
  have hb1 := HB1.out
  exact ⟨rfl, by (repeat' (first | (with_reducible assumption) | (with_reducible exact Below.refl _ _) | (with_reducible refine below_drewN ?_ _) | (with_reducible refine Below.drew ?_) | (with_reducible refine Below.alloc ?_ ?_ _) | (with_reducible refine Below.setCell ?_ ?_ _) | (with_reducible refine Below.trans ?_ (Below.mono (by assumption) ?_)) | (with_reducible exact Nat.le_refl _) | (with_reducible assumption) | omega | (simp; omega) | (simp; done)))⟩
set_option maxRecDepth 100000 in
set_option maxHeartbeats 4000000 in
theorem spec_CoefficientsOf_yes (m : Nat) (v : Value) (l : List Int) (w : World) (h : isSz (m : Int) = true) (hv : Sl w v l) (hg : good (m : Int) l = true) (ha : adC m (fun i => l.getD i 0) 0 l.length = true) :
    Calls Try.prog 31 #[.int .i64 m, v] w fun e w' => ∃ v', e = .returned (.tuple #[v', .bool true]) ∧ Row w' w.heap.size v' (fl (acf m (fun i => l.getD i 0)) (plN m)) ∧ Below w.heap.size w w' := by
  have hq := isSz_le (m : Int) h
  have hlen := (good_parts hg).1
  have HP := Lib.hid (adTable_on m v l w h hv hg ha)
  have HA := Lib.hid (fun w' (hb : Below w.heap.size w w') => adCoefficients_any m v l w' h (hv.below hb (Nat.le_refl _)) (by omega))
  clear hg hv h ha
  generalize fl (acf m (fun i => l.getD i 0)) (plN m) = r at *
  go_enter Try.func31, Try.ntmps31
  go_wp2_with fail
  refine HP.out.mono ?_
  rintro e w1 ⟨v1, rfl, hr1, hb1⟩
  have hz1 := hb1.size
  have HB1 := Lib.hid hb1; clear hb1 hr1
  go_wp2_with fail
  refine (HA.out _ HB1.out).mono ?_
  rintro e w2 ⟨v2, rfl, hr2, hb2⟩
  have HR2 := Lib.hid hr2
  have HB2 := Lib.hid hb2
  clear hr2 hb2
  go_wp2
  go_ret2
  exact ⟨_, rfl, HR2.out.mono hz1, HB1.out.trans (HB2.out.mono hz1)⟩
set_option maxRecDepth 100000 in
set_option maxHeartbeats 4000000 in
theorem impl_CoefficientsOf_yes (m : Nat) (v : Value) (l : List Int) (w : World) (h : isSz (m : Int) = true) (hv : Sl w v l) (hg : good (m : Int) l = true) (ha : adC m (fun i => l.getD i 0) 0 l.length = true) :
    Calls Try.prog 32 #[.int .i64 m, v] w fun e w' => ∃ v', e = .returned (.tuple #[v', .bool true]) ∧ Row w' w.heap.size v' (fl (acf m (fun i => l.getD i 0)) (plN m)) ∧ Below w.heap.size w w' := by
  have hq := isSz_le (m : Int) h
  have hkb := plN_bd (m : Int) h
  have hlen := (good_parts hg).1
  have hel := all_el h (good_parts hg).2
  have HP := Lib.hid (validAdditive_yes m v l w h hv hg ha)
  have HC := Lib.hid (fun v w (hs : Se w v (m : Int) (fun i => l.getD i 0) l.length) => additiveCoefficientsE m l.length v (fun i => l.getD i 0) w h hs (by omega) getD_past)
  have HM := Lib.hid (fun v w (hs : Se w v (m : Int) (acf m (fun i => l.getD i 0)) (plN m)) => mappedEI (m : Int) v (acf m (fun i => l.getD i 0)) (plN m) w h hs (fun i _ => hel _) (by omega))
  clear hg hv h ha hel
  generalize acf m (fun i => l.getD i 0) = F at *
  generalize (fun i => l.getD i 0) = f at *
  generalize l.length = n at *
  generalize plN (m : Int) = k at *
  go_enter Try.func32, Try.ntmps32
  go_wp2_with fail
  refine HP.out.mono ?_
  rintro e w1 ⟨g, rfl, hg, hgl, he, hb1⟩
  have HE1 := Lib.hid he
  clear he
  have hz_hb1 := hb1.size; (try simp at hz_hb1)
  have HB1 := Lib.hid hb1; clear hb1
  go_wp2_with fail
  refine (HC.out (.slice (some ⟨g, 0, none⟩) n n) _ ⟨g, n, rfl, by simp; omega, HE1.out.below (B := w1.heap.size) (by (repeat' (first | (with_reducible assumption) | (with_reducible exact Below.refl _ _) | (with_reducible refine below_drewN ?_ _) | (with_reducible refine Below.drew ?_) | (with_reducible refine Below.alloc ?_ ?_ _) | (with_reducible refine Below.setCell ?_ ?_ _) | (with_reducible refine Below.trans ?_ (Below.mono (by assumption) ?_)) | (with_reducible exact Nat.le_refl _) | (with_reducible assumption) | omega | (simp; omega) | (simp; done)))) hgl⟩).mono ?_
  rintro e w2 ⟨g2, rfl, hg2, hk2, he2, hb2⟩
  have HSE : Hid (Se w2 (.slice (some ⟨g2, 0, none⟩) k k) (m : Int) F k) := Lib.hid ⟨g2, k, rfl, hk2.lt, he2⟩
  clear hk2 he2
  have hz_hb2 := hb2.size; (try simp at hz_hb2)
  have HB2 := Lib.hid hb2; clear hb2
  go_wp2_with fail
  refine (HM.out _ _ HSE.out).mono ?_
  rintro e w3 ⟨v3, rfl, hr3, hb3⟩
  have HR3 := Lib.hid hr3; clear hr3
  have HB3 := Lib.hid hb3; clear hb3
  go_wp2
  go_ret2
  have hb1 := HB1.out
  have hb2 := HB2.out
  have hb3 := HB3.out
  exact ⟨_, rfl, HR3.out.mono (by omega), by (repeat' (first | (with_reducible assumption) | (with_reducible exact Below.refl _ _) | (with_reducible refine below_drewN ?_ _) | (with_reducible refine Below.drew ?_) | (with_reducible refine Below.alloc ?_ ?_ _) | (with_reducible refine Below.setCell ?_ ?_ _) | (with_reducible refine Below.trans ?_ (Below.mono (by assumption) ?_)) | (with_reducible exact Nat.le_refl _) | (with_reducible assumption) | omega | (simp; omega) | (simp; done)))⟩
theorem key_CoefficientsOf (q : Int) (l_f : List Int) (b_f : l_f.length ≤ 1048576) : ∃ (r : List Int) (o : Bool), r.length ≤ 1048576 ∧ (∀ (w : World) (v_f : Value) (_ : Sl w v_f l_f), Calls Try.prog 31 #[.int .i64 q, v_f] w fun e w' => ∃ v, e = .returned (.tuple #[v, .bool o]) ∧ Row w' w.heap.size v r ∧ Below w.heap.size w w') ∧
      (∀ (w : World) (v_f : Value) (_ : Sl w v_f l_f), Calls Try.prog 32 #[.int .i64 q, v_f] w fun e w' => ∃ v, e = .returned (.tuple #[v, .bool o]) ∧ Row w' w.heap.size v r ∧ Below w.heap.size w w') := by
  cases h : addL q l_f with
  | false => exact ⟨[], false, by simp, fun w v hv => (spec_CoefficientsOf_no q v l_f w hv b_f h).mono (by rintro e w' ⟨rfl, hb⟩; exact ⟨_, rfl, Row.nil _ _, hb⟩), fun w v hv => (impl_CoefficientsOf_no q v l_f w hv b_f h).mono (by rintro e w' ⟨rfl, hb⟩; exact ⟨_, rfl, Row.nil _ _, hb⟩)⟩
  | true =>
    obtain ⟨m, rfl, h1, h2, h3⟩ := addL_parts h
    exact ⟨_, true, by rw [fl_len]; have := plN_bd _ h1; omega, fun w v hv => spec_CoefficientsOf_yes m v l_f w h1 hv h2 h3, fun w v hv => impl_CoefficientsOf_yes m v l_f w h1 hv h2 h3⟩
set_option maxRecDepth 100000 in
set_option maxHeartbeats 4000000 in
/-- laws.FnExactCoefficientsOf. -/
theorem walk_FnExactCoefficientsOf (q : Int) (a_f : Option Addr) (n_f c_f : Nat) (z_f : List Int) (w : World) (_h_q : (Lit.int .i64 q).wf = true) (h_f : IsRow .i64 w a_f n_f c_f z_f) :
    Calls Try.prog 10 #[.int .i64 q, .slice a_f n_f c_f] w fun e w' => e = .returned (.bool true) ∧ Below w.heap.size w w' := by
  clear _h_q
  obtain ⟨hs_f, hl_f, _⟩ := h_f.sl
  generalize z_f.take n_f = l_f at *
  clear h_f
  subst hl_f
  by_cases b_f : l_f.length ≤ 1048576
  rotate_left
  · have hn_f : (1048576 : Int) < (l_f.length : Int) := by omega
    go_enter Try.func10, Try.ntmps10
    go_wp2
    go_ret
    exact ⟨rfl, Below.refl _ _⟩
  have hn_f : ¬ (1048576 : Int) < (l_f.length : Int) := by omega
  obtain ⟨r, o, hr, k1, k2⟩ := key_CoefficientsOf q l_f b_f
  have K1 := Lib.hid k1; clear k1
  have K2 := Lib.hid k2; clear k2
  have HS_f := Lib.hid hs_f; clear hs_f
  have HB0 : Hid (Below w.heap.size w w) := Lib.hid (Below.refl _ _)
  go_enter Try.func10, Try.ntmps10
  go_wp2_with fail
  refine (toIntS_any _ l_f _ (HS_f.out.below HB0.out (Nat.le_refl _)) b_f).mono ?_
  rintro e w1 ⟨v_s_f, rfl, hrw1, hbw1⟩
  have hzw1 : w.heap.size ≤ w1.heap.size := hbw1.size
  have HBw1 : Hid (Below w.heap.size w w1) := Lib.hid (HB0.out.trans (hbw1.mono HB0.out.size))
  have hww1 := HBw1.out.size
  clear hbw1 HB0
  have R_s_f_w1 := Lib.hid hrw1; clear hrw1
  have lt_s_f : Hid (∀ g, v_s_f.ownBlock = some g → w.heap.size ≤ g ∧ g < w1.heap.size) := Lib.hid R_s_f_w1.out.lt
  go_wp2_with fail
  refine (K1.out _ v_s_f R_s_f_w1.out.sl).mono ?_
  rintro e w2 ⟨v_sp, rfl, hrw2, hbw2⟩
  have hzw2 : w1.heap.size ≤ w2.heap.size := hbw2.size
  have R_s_f_w2 := Lib.hid (R_s_f_w1.out.below hbw2)
  clear R_s_f_w1
  have HBw2 : Hid (Below w.heap.size w w2) := Lib.hid (HBw1.out.trans (hbw2.mono HBw1.out.size))
  have hww2 := HBw2.out.size
  clear hbw2 HBw1
  have R_sp_w2 := Lib.hid hrw2; clear hrw2
  have lt_sp : Hid (∀ g, v_sp.ownBlock = some g → w1.heap.size ≤ g ∧ g < w2.heap.size) := Lib.hid R_sp_w2.out.lt
  clear R_s_f_w2 lt_s_f
  go_wp2_with fail
  refine (toIntS_any _ l_f _ (HS_f.out.below HBw2.out (Nat.le_refl _)) b_f).mono ?_
  rintro e w3 ⟨v_x_f, rfl, hrw3, hbw3⟩
  have hzw3 : w2.heap.size ≤ w3.heap.size := hbw3.size
  have R_sp_w3 := Lib.hid (R_sp_w2.out.below hbw3)
  clear R_sp_w2
  have HBw3 : Hid (Below w.heap.size w w3) := Lib.hid (HBw2.out.trans (hbw3.mono HBw2.out.size))
  have hww3 := HBw3.out.size
  clear hbw3 HBw2
  have R_x_f_w3 := Lib.hid hrw3; clear hrw3
  have lt_x_f : Hid (∀ g, v_x_f.ownBlock = some g → w2.heap.size ≤ g ∧ g < w3.heap.size) := Lib.hid R_x_f_w3.out.lt
  go_wp2_with fail
  refine (K2.out _ v_x_f R_x_f_w3.out.sl).mono ?_
  rintro e w4 ⟨v_im, rfl, hrw4, hbw4⟩
  have hzw4 : w3.heap.size ≤ w4.heap.size := hbw4.size
  have R_sp_w4 := Lib.hid (R_sp_w3.out.below hbw4)
  clear R_sp_w3
  have R_x_f_w4 := Lib.hid (R_x_f_w3.out.below hbw4)
  clear R_x_f_w3
  have HBw4 : Hid (Below w.heap.size w w4) := Lib.hid (HBw3.out.trans (hbw4.mono HBw3.out.size))
  have hww4 := HBw4.out.size
  clear hbw4 HBw3
  have R_im_w4 := Lib.hid hrw4; clear hrw4
  have lt_im : Hid (∀ g, v_im.ownBlock = some g → w3.heap.size ≤ g ∧ g < w4.heap.size) := Lib.hid R_im_w4.out.lt
  go_wp2_with fail
  refine (eq_same v_im v_sp r _ _ _ R_im_w4.out R_sp_w4.out (by omega)).mono ?_
  rintro e w5 ⟨rfl, hbw5⟩
  have hzw5 : w4.heap.size ≤ w5.heap.size := hbw5.size
  have R_sp_w5 := Lib.hid (R_sp_w4.out.below hbw5)
  clear R_sp_w4
  have R_x_f_w5 := Lib.hid (R_x_f_w4.out.below hbw5)
  clear R_x_f_w4
  have R_im_w5 := Lib.hid (R_im_w4.out.below hbw5)
  clear R_im_w4
  have HBw5 : Hid (Below w.heap.size w w5) := Lib.hid (HBw4.out.trans (hbw5.mono HBw4.out.size))
  have hww5 := HBw5.out.size
  clear hbw5 HBw4
  go_wp2_with fail
  refine (toIntS_any _ l_f _ (HS_f.out.below HBw5.out (Nat.le_refl _)) b_f).mono ?_
  rintro e w6 ⟨v_y_f, rfl, hrw6, hbw6⟩
  have hzw6 : w5.heap.size ≤ w6.heap.size := hbw6.size
  have R_sp_w6 := Lib.hid (R_sp_w5.out.below hbw6)
  clear R_sp_w5
  have R_x_f_w6 := Lib.hid (R_x_f_w5.out.below hbw6)
  clear R_x_f_w5
  have R_im_w6 := Lib.hid (R_im_w5.out.below hbw6)
  clear R_im_w5
  have HBw6 : Hid (Below w.heap.size w w6) := Lib.hid (HBw5.out.trans (hbw6.mono HBw5.out.size))
  have hww6 := HBw6.out.size
  clear hbw6 HBw5
  have R_y_f_w6 := Lib.hid hrw6; clear hrw6
  have lt_y_f : Hid (∀ g, v_y_f.ownBlock = some g → w5.heap.size ≤ g ∧ g < w6.heap.size) := Lib.hid R_y_f_w6.out.lt
  go_wp2_with fail
  refine (eq_same v_x_f v_y_f l_f _ _ _ R_x_f_w6.out R_y_f_w6.out (by omega)).mono ?_
  rintro e w7 ⟨rfl, hbw7⟩
  have hzw7 : w6.heap.size ≤ w7.heap.size := hbw7.size
  have R_sp_w7 := Lib.hid (R_sp_w6.out.below hbw7)
  clear R_sp_w6
  have R_x_f_w7 := Lib.hid (R_x_f_w6.out.below hbw7)
  clear R_x_f_w6
  have R_im_w7 := Lib.hid (R_im_w6.out.below hbw7)
  clear R_im_w6
  have R_y_f_w7 := Lib.hid (R_y_f_w6.out.below hbw7)
  clear R_y_f_w6
  have HBw7 : Hid (Below w.heap.size w w7) := Lib.hid (HBw6.out.trans (hbw7.mono HBw6.out.size))
  have hww7 := HBw7.out.size
  clear hbw7 HBw6
  clear R_y_f_w7 lt_y_f
  go_wp2_with fail
  refine (mark_any v_x_f l_f _ (1) _ R_x_f_w7.out (by omega) (by omega) (by omega)).mono ?_
  rintro e w8 ⟨rfl, hrw8, hgw8⟩
  have hzw8 : w7.heap.size ≤ w8.heap.size := hgw8.size
  have R_sp_w8 := Lib.hid (R_sp_w7.out.keep (w' := w8) fun g hg => hgw8.block g (R_sp_w7.out.lt g hg).2 fun e => by have h1 := lt_sp.out g hg; have h2 := lt_x_f.out g e.symm; omega)
  clear R_sp_w7
  have R_im_w8 := Lib.hid (R_im_w7.out.keep (w' := w8) fun g hg => hgw8.block g (R_im_w7.out.lt g hg).2 fun e => by have h1 := lt_im.out g hg; have h2 := lt_x_f.out g e.symm; omega)
  clear R_im_w7
  have HBw8 : Hid (Below w.heap.size w w8) := Lib.hid (Below.grown HBw7.out hgw8 (by omega) (fun g e => by have h2 := lt_x_f.out g e; omega))
  have hww8 := HBw8.out.size
  have R_x_f_w8 := Lib.hid hrw8
  clear hrw8 hgw8 HBw7 R_x_f_w7
  clear R_x_f_w8 lt_x_f
  have hpos : ¬ (1 + (l_f.length : Int)) < (0 : Int) := by omega
  go_wp2_with fail
  refine (eq_same v_im v_sp r _ _ _ R_im_w8.out R_sp_w8.out (by omega)).mono ?_
  rintro e w9 ⟨rfl, hbw9⟩
  have hzw9 : w8.heap.size ≤ w9.heap.size := hbw9.size
  have R_sp_w9 := Lib.hid (R_sp_w8.out.below hbw9)
  clear R_sp_w8
  have R_im_w9 := Lib.hid (R_im_w8.out.below hbw9)
  clear R_im_w8
  have HBw9 : Hid (Below w.heap.size w w9) := Lib.hid (HBw8.out.trans (hbw9.mono HBw8.out.size))
  have hww9 := HBw9.out.size
  clear hbw9 HBw8
  go_wp2_with fail
  refine (mark_any v_im r _ (1) _ R_im_w9.out (by omega) (by omega) (by omega)).mono ?_
  rintro e w10 ⟨rfl, hrw10, hgw10⟩
  have hzw10 : w9.heap.size ≤ w10.heap.size := hgw10.size
  have R_sp_w10 := Lib.hid (R_sp_w9.out.keep (w' := w10) fun g hg => hgw10.block g (R_sp_w9.out.lt g hg).2 fun e => by have h1 := lt_sp.out g hg; have h2 := lt_im.out g e.symm; omega)
  clear R_sp_w9
  have HBw10 : Hid (Below w.heap.size w w10) := Lib.hid (Below.grown HBw9.out hgw10 (by omega) (fun g e => by have h2 := lt_im.out g e; omega))
  have hww10 := HBw10.out.size
  have R_im_w10 := Lib.hid hrw10
  clear hrw10 hgw10 HBw9 R_im_w9
  go_wp2_with fail
  refine (held_any v_im r.length _ (1) _ R_im_w10.out (by omega) (by omega) (by omega)).mono ?_
  rintro e wx1 ⟨rfl, rfl⟩
  go_wp2_with fail
  refine (toIntS_any _ l_f _ (HS_f.out.below HBw10.out (Nat.le_refl _)) b_f).mono ?_
  rintro e w11 ⟨v_t_f, rfl, hrw11, hbw11⟩
  have hzw11 : w10.heap.size ≤ w11.heap.size := hbw11.size
  have R_sp_w11 := Lib.hid (R_sp_w10.out.below hbw11)
  clear R_sp_w10
  have R_im_w11 := Lib.hid (R_im_w10.out.below hbw11)
  clear R_im_w10
  have HBw11 : Hid (Below w.heap.size w w11) := Lib.hid (HBw10.out.trans (hbw11.mono HBw10.out.size))
  have hww11 := HBw11.out.size
  clear hbw11 HBw10
  have R_t_f_w11 := Lib.hid hrw11; clear hrw11
  have lt_t_f : Hid (∀ g, v_t_f.ownBlock = some g → w10.heap.size ≤ g ∧ g < w11.heap.size) := Lib.hid R_t_f_w11.out.lt
  go_wp2_with fail
  refine (K2.out _ v_t_f R_t_f_w11.out.sl).mono ?_
  rintro e w12 ⟨v_im2, rfl, hrw12, hbw12⟩
  have hzw12 : w11.heap.size ≤ w12.heap.size := hbw12.size
  have R_sp_w12 := Lib.hid (R_sp_w11.out.below hbw12)
  clear R_sp_w11
  have R_im_w12 := Lib.hid (R_im_w11.out.below hbw12)
  clear R_im_w11
  have R_t_f_w12 := Lib.hid (R_t_f_w11.out.below hbw12)
  clear R_t_f_w11
  have HBw12 : Hid (Below w.heap.size w w12) := Lib.hid (HBw11.out.trans (hbw12.mono HBw11.out.size))
  have hww12 := HBw12.out.size
  clear hbw12 HBw11
  have R_im2_w12 := Lib.hid hrw12; clear hrw12
  have lt_im2 : Hid (∀ g, v_im2.ownBlock = some g → w11.heap.size ≤ g ∧ g < w12.heap.size) := Lib.hid R_im2_w12.out.lt
  clear R_t_f_w12 lt_t_f
  go_wp2_with fail
  refine (eq_same v_im2 v_sp r _ _ _ R_im2_w12.out R_sp_w12.out (by omega)).mono ?_
  rintro e w13 ⟨rfl, hbw13⟩
  have hzw13 : w12.heap.size ≤ w13.heap.size := hbw13.size
  have R_sp_w13 := Lib.hid (R_sp_w12.out.below hbw13)
  clear R_sp_w12
  have R_im_w13 := Lib.hid (R_im_w12.out.below hbw13)
  clear R_im_w12
  have R_im2_w13 := Lib.hid (R_im2_w12.out.below hbw13)
  clear R_im2_w12
  have HBw13 : Hid (Below w.heap.size w w13) := Lib.hid (HBw12.out.trans (hbw13.mono HBw12.out.size))
  have hww13 := HBw13.out.size
  clear hbw13 HBw12
  go_wp2_with fail
  refine (held_any v_im r.length _ (1) _ R_im_w13.out (by omega) (by omega) (by omega)).mono ?_
  rintro e wx2 ⟨rfl, rfl⟩
  go_wp2
  go_ret
  exact ⟨rfl, HBw13.out⟩
end Go.Proofs.Ytgndlpdcebmgmab
