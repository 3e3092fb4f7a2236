/- PowerOfX, DicksonOf, JoinDickson, of both, by contracts; the walks of their laws. -/
import Derived.Test.YtapglncgicfjnabGreatNC
import Derived.Test.YtapglncgicfjnabGreatNF
import Derived.Test.YtapglncgicfjnabGreatNH
namespace Go.Proofs.YtapglncgicfjnabGreat
open Go.RowKit
theorem ptl_len (m : Nat) (t : Nat → Int) : (ptl m t).length ≤ m := by
  rw [ptl, fl_len]
  exact sn_le _ _
theorem ptl_congr {m : Nat} {t u : Nat → Int} (h : ∀ x, x < m → t x = u x) : ptl m t = ptl m u := by
  have e : ipl m t m = ipl m u m := by
    funext j
    unfold ipl
    exact lsum_congr fun a ha => by rw [h a ha]
  unfold ptl
  rw [e]
theorem unt_set (n : Nat) : (List.replicate (n + 1) (0 : Int)).set n 1 = fl (unt n) (n + 1) := by
  have e : List.replicate (n + 1) (0 : Int) = fl (fun _ => 0) (n + 1) := by
    refine List.ext_getElem (by simp [fl_len]) fun i h1 h2 => ?_
    simp [fl]
  rw [e, fl_set]
  refine fl_congr fun i hi => ?_
  by_cases h : i = n
  · subst h
    rw [upd_at]
    exact (if_pos rfl).symm
  · rw [upd_ne _ _ _ _ h]
    exact (if_neg h).symm
theorem Row.cellN {w : World} {B g N : Nat} (h : Row w B (.slice (some ⟨g, 0, none⟩) N N) (List.replicate N 0)) (i : Nat) (hi : i < N) : w.cell? ⟨g, i, none⟩ = some (.int .i64 0) := by
  have e : (List.replicate N (0 : Int)).length = N := by simp
  have h' : Row w B (.slice (some ⟨g, 0, none⟩) (List.replicate N (0 : Int)).length N) (List.replicate N 0) := by rw [e]; exact h
  have := h'.cell i (by omega)
  rw [this]
  congr 2
  simp [List.getD, hi]
set_option maxHeartbeats 1000000 in
/-- spec.kdPower, from where its row is made. -/
theorem kdPower_any (m n : Nat) (w : World) (h : isSz (m : Int) = true) (hn : n ≤ 900) :
    Calls Tryz.prog 98 #[.int .i64 m, .int .i64 n] w fun e w' => ∃ v, e = .returned v ∧ RowT w' w.heap.size v m (fun a => pw m (a : Int) n) ∧ Below w.heap.size w w' := by
  have hq := isSz_le (m : Int) h
  have HTB := Lib.hid (tb_unt h n)
  have hil := idx_lt m n (by omega)
  obtain ⟨i0, hi, iz0, iz1, iz2⟩ := info_parts Tryz.infoI
  clear h
  by_cases hnm : n < m
  · have he : idx m n = n := idx_small m n hnm
    rw [he] at HTB hil
    have hnm' : ¬ (m : Int) ≤ (n : Int) := by omega
    go_enter Tryz.func98, Tryz.ntmps98
    go_wp2_with (at_make; refine wpList_make_full _ rfl _ _ 24 rfl w.heap.size 3 i0 (.int .i64 0) 1 Tryz.underlying24 hi iz0 iz1 .i64 .i64 _ _ (n + 1) rfl rfl rfl rfl ?c3 ?c4 ?c5 ?_)
    case c3 => first | omega | (rw [iz2]; omega)
    case c4 => unfold maxLen; omega
    intro w1 hown hgrow
    have hr : Row w1 w.heap.size (.slice (some ⟨w.heap.size, 0, none⟩) (n + 1) (n + 1)) (List.replicate (n + 1) 0) := by
      have := Row.madeF (fun _ => 0) hown
      rw [show List.replicate (n + 1) (0 : Int) = fl (part0 (fun _ => 0) 0) (n + 1) from part0_zero _ _]
      exact this
    have hb1 : Below w.heap.size w w1 := (Below.refl w.heap.size w).grown hgrow (Nat.le_refl _) (fun k hk => by cases hk)
    have hc := Row.cellN hr n (by omega)
    have hf := hr.frozen (by simp) n
    have hr2 := hr.store (by simp) n 1
    rw [unt_set] at hr2
    have HR2 := Lib.hid hr2
    have HB1 := Lib.hid hb1
    have hgl : w.heap.size < w1.heap.size := (hr.lt w.heap.size rfl).2
    clear hr hr2 hb1 hown hgrow
    go_wp2
    go_ret
    exact ⟨_, rfl, ⟨_, _, HR2.out, HTB.out⟩, by have hb1 := HB1.out; (repeat' (first | (with_reducible assumption) | (with_reducible exact Below.refl _ _) | (with_reducible refine below_drewN ?_ _) | (with_reducible refine Below.drew ?_) | (with_reducible refine Below.alloc ?_ ?_ _) | (with_reducible refine Below.setCell ?_ ?_ _) | (with_reducible refine Below.trans ?_ (Below.mono (by assumption) ?_)) | (with_reducible exact Nat.le_refl _) | (with_reducible assumption) | omega | (simp; omega) | (simp; done)))⟩
  · have hnm' : (m : Int) ≤ (n : Int) := by omega
    have z1 : (n : Int) - 1 = ((n - 1 : Nat) : Int) := by omega
    have z2 : (m : Int) - 1 = ((m - 1 : Nat) : Int) := by omega
    have z3 : ((n - 1 : Nat) : Int) % ((m - 1 : Nat) : Int) = (((n - 1) % (m - 1) : Nat) : Int) := rfl
    have hie : idx m n = (n - 1) % (m - 1) + 1 := if_neg (by omega)
    rw [hie] at HTB hil
    have hpos : (0 : Int) < ((m - 1 : Nat) : Int) := by omega
    have hne : (((m - 1 : Nat) : Int) == 0) = false := by simp; omega
    have b1 : n - 1 ≤ 900 := by omega
    have b2 : m - 1 ≤ 16 := by omega
    generalize (n - 1) % (m - 1) = r at *
    generalize n - 1 = n1 at *
    generalize m - 1 = m1 at *
    go_enter Tryz.func98, Tryz.ntmps98
    go_wp2_with (at_make; refine wpList_make_full _ rfl _ _ 24 rfl w.heap.size 3 i0 (.int .i64 0) 1 Tryz.underlying24 hi iz0 iz1 .i64 .i64 _ _ (r + 1 + 1) rfl rfl rfl rfl ?c3 ?c4 ?c5 ?_)
    case c3 => first | omega | (rw [iz2]; omega)
    case c4 => unfold maxLen; omega
    intro w1 hown hgrow
    have hr : Row w1 w.heap.size (.slice (some ⟨w.heap.size, 0, none⟩) (r + 1 + 1) (r + 1 + 1)) (List.replicate (r + 1 + 1) 0) := by
      have := Row.madeF (fun _ => 0) hown
      rw [show List.replicate (r + 1 + 1) (0 : Int) = fl (part0 (fun _ => 0) 0) (r + 1 + 1) from part0_zero _ _]
      exact this
    have hb1 : Below w.heap.size w w1 := (Below.refl w.heap.size w).grown hgrow (Nat.le_refl _) (fun k hk => by cases hk)
    have hc := Row.cellN hr (r + 1) (by omega)
    have hf := hr.frozen (by simp) (r + 1)
    have hr2 := hr.store (by simp) (r + 1) 1
    rw [unt_set] at hr2
    have HR2 := Lib.hid hr2
    have HB1 := Lib.hid hb1
    have hgl : w.heap.size < w1.heap.size := (hr.lt w.heap.size rfl).2
    clear hr hr2 hb1 hown hgrow
    go_wp2
    go_ret
    exact ⟨_, rfl, ⟨_, _, HR2.out, HTB.out⟩, by have hb1 := HB1.out; (repeat' (first | (with_reducible assumption) | (with_reducible exact Below.refl _ _) | (with_reducible refine below_drewN ?_ _) | (with_reducible refine Below.drew ?_) | (with_reducible refine Below.alloc ?_ ?_ _) | (with_reducible refine Below.setCell ?_ ?_ _) | (with_reducible refine Below.trans ?_ (Below.mono (by assumption) ?_)) | (with_reducible exact Nat.le_refl _) | (with_reducible assumption) | omega | (simp; omega) | (simp; done)))⟩
set_option maxHeartbeats 1000000 in
theorem spec_PowerOfX_yes (m k : Nat) (w : World) (h : isSz (m : Int) = true) (hk : k ≤ 400) :
    Calls Tryz.prog 26 #[.int .i64 m, .int .i64 k] w fun e w' => ∃ v, e = .returned (.tuple #[v, .bool true]) ∧ Row w' w.heap.size v (ptl m (fun a => pw m (a : Int) k)) ∧ Below w.heap.size w w' := by
  have HA := Lib.hid (fun w => asked_yes m k w h hk)
  have HK := Lib.hid (fun w => kdPower_any m k w h (by omega))
  have HS := Lib.hid h
  clear h
  go_enter Tryz.func26, Tryz.ntmps26
  go_wp2_with fail
  refine (HA.out _).mono ?_
  rintro e w1 ⟨rfl, hb1⟩
  obtain ⟨hc1, hf1⟩ := bcell hb1; have hz1 := hb1.size; (try simp at hz1); have HB1 := Lib.hid hb1; clear hb1
  go_wp2_with fail
  refine (HK.out _).mono ?_
  rintro e w2 ⟨v2, rfl, hr2, hb2⟩
  obtain ⟨hc2, hf2⟩ := bcell hb2; have hz2 := hb2.size; (try simp at hz2); have HB2 := Lib.hid hb2; clear hb2
  have HR2 := Lib.hid hr2; clear hr2
  go_wp2
  go_ret2
  have hb1 := HB1.out
  have hb2 := HB2.out
  exact ⟨_, rfl, (HR2.out.row HS.out).mono (by (try simp); omega), by (repeat' (first | (with_reducible assumption) | (with_reducible exact Below.refl _ _) | (with_reducible refine below_drewN ?_ _) | (with_reducible refine Below.drew ?_) | (with_reducible refine Below.alloc ?_ ?_ _) | (with_reducible refine Below.setCell ?_ ?_ _) | (with_reducible refine Below.trans ?_ (Below.mono (by assumption) ?_)) | (with_reducible exact Nat.le_refl _) | (with_reducible assumption) | omega | (simp; omega) | (simp; done)))⟩
set_option maxHeartbeats 1000000 in
theorem impl_PowerOfX_yes (m k : Nat) (w : World) (h : isSz (m : Int) = true) (hk : k ≤ 400) :
    Calls Tryz.prog 25 #[.int .i64 m, .int .i64 k] w fun e w' => ∃ v, e = .returned (.tuple #[v, .bool true]) ∧ Row w' w.heap.size v (ptl m (fun a => pw m (a : Int) k)) ∧ Below w.heap.size w w' := by
  have HF := Lib.hid (fun w => fieldOf_yes (m : Int) w h)
  have HX := Lib.hid (fun w => isExp_yes k w hk)
  have HP := Lib.hid (fun w => powerOfXE m k w h (by omega))
  have HN := Lib.hid (fun v t w hv => numbersT m v t w h hv)
  clear h
  go_enter Tryz.func25, Tryz.ntmps25
  go_wp2_with fail
  refine (HF.out _).mono ?_
  rintro e w1 ⟨rfl, hb1⟩
  obtain ⟨hc1, hf1⟩ := bcell hb1; have hz1 := hb1.size; (try simp at hz1); have HB1 := Lib.hid hb1; clear hb1
  go_wp2_with fail
  refine (HX.out _).mono ?_
  rintro e w2 ⟨rfl, hb2⟩
  obtain ⟨hc2, hf2⟩ := bcell hb2; have hz2 := hb2.size; (try simp at hz2); have HB2 := Lib.hid hb2; clear hb2
  go_wp2_with fail
  refine (HP.out _).mono ?_
  rintro e w3 ⟨v3, rfl, hv3, hb3⟩
  obtain ⟨hc3, hf3⟩ := bcell hb3; have hz3 := hb3.size; (try simp at hz3); have HB3 := Lib.hid hb3; clear hb3
  have HV3 := Lib.hid hv3; clear hv3
  go_wp2_with fail
  refine (HN.out _ _ _ HV3.out).mono ?_
  rintro e w4 ⟨v4, rfl, hr4, hb4⟩
  obtain ⟨hc4, hf4⟩ := bcell hb4; have hz4 := hb4.size; (try simp at hz4); have HB4 := Lib.hid hb4; clear hb4
  have HR4 := Lib.hid hr4; clear hr4
  go_wp2
  go_ret2
  have hb1 := HB1.out
  have hb2 := HB2.out
  have hb3 := HB3.out
  have hb4 := HB4.out
  exact ⟨_, rfl, HR4.out.mono (by (try simp); omega), by (repeat' (first | (with_reducible assumption) | (with_reducible exact Below.refl _ _) | (with_reducible refine below_drewN ?_ _) | (with_reducible refine Below.drew ?_) | (with_reducible refine Below.alloc ?_ ?_ _) | (with_reducible refine Below.setCell ?_ ?_ _) | (with_reducible refine Below.trans ?_ (Below.mono (by assumption) ?_)) | (with_reducible exact Nat.le_refl _) | (with_reducible assumption) | omega | (simp; omega) | (simp; done)))⟩
theorem spec_PowerOfX_no (q n : Int) (w : World) (h : (isSz q && okE n) = false) :
    Calls Tryz.prog 26 #[.int .i64 q, .int .i64 n] w fun e w' => e = .returned (.tuple #[.slice none 0 0, .bool false]) ∧ Below w.heap.size w w' := by
  have HA := Lib.hid (fun w => asked_no q n w h)
  clear h
  go_enter Tryz.func26, Tryz.ntmps26
  go_wp2_with fail
  refine (HA.out _).mono ?_
  rintro e w1 ⟨rfl, hb1⟩
  go_wp2
  go_ret2
  exact ⟨rfl, hb1⟩
theorem impl_PowerOfX_no (q n : Int) (w : World) (h : (isSz q && okE n) = false) :
    Calls Tryz.prog 25 #[.int .i64 q, .int .i64 n] w fun e w' => e = .returned (.tuple #[.slice none 0 0, .bool false]) ∧ Below w.heap.size w w' := by
  cases hs : isSz q with
  | false =>
    have HF := Lib.hid (fun w => fieldOf_no q w hs)
    clear h hs
    go_enter Tryz.func25, Tryz.ntmps25
    go_wp2_with fail
    refine (HF.out _).mono ?_
    rintro e w1 ⟨rfl, hb1⟩
    obtain ⟨hc1, hf1⟩ := bcell hb1; have hz1 := hb1.size; (try simp at hz1); have HB1 := Lib.hid hb1; clear hb1
    go_wp2
    go_ret2
    have hb1 := HB1.out
    exact ⟨rfl, by (repeat' (first | (with_reducible assumption) | (with_reducible exact Below.refl _ _) | (with_reducible refine below_drewN ?_ _) | (with_reducible refine Below.drew ?_) | (with_reducible refine Below.alloc ?_ ?_ _) | (with_reducible refine Below.setCell ?_ ?_ _) | (with_reducible refine Below.trans ?_ (Below.mono (by assumption) ?_)) | (with_reducible exact Nat.le_refl _) | (with_reducible assumption) | omega | (simp; omega) | (simp; done)))⟩
  | true =>
    have HF := Lib.hid (fun w => fieldOf_yes q w hs)
    have HX := Lib.hid (fun w => isExponentE n w)
    rw [hs, Bool.true_and] at h
    rw [h] at HX
    clear h hs
    go_enter Tryz.func25, Tryz.ntmps25
    go_wp2_with fail
    refine (HF.out _).mono ?_
    rintro e w1 ⟨rfl, hb1⟩
    obtain ⟨hc1, hf1⟩ := bcell hb1; have hz1 := hb1.size; (try simp at hz1); have HB1 := Lib.hid hb1; clear hb1
    go_wp2_with fail
    refine (HX.out _).mono ?_
    rintro e w2 ⟨rfl, hb2⟩
    obtain ⟨hc2, hf2⟩ := bcell hb2; have hz2 := hb2.size; (try simp at hz2); have HB2 := Lib.hid hb2; clear hb2
    go_wp2
    go_ret2
    have hb1 := HB1.out
    have hb2 := HB2.out
    exact ⟨rfl, by (repeat' (first | (with_reducible assumption) | (with_reducible exact Below.refl _ _) | (with_reducible refine below_drewN ?_ _) | (with_reducible refine Below.drew ?_) | (with_reducible refine Below.alloc ?_ ?_ _) | (with_reducible refine Below.setCell ?_ ?_ _) | (with_reducible refine Below.trans ?_ (Below.mono (by assumption) ?_)) | (with_reducible exact Nat.le_refl _) | (with_reducible assumption) | omega | (simp; omega) | (simp; done)))⟩
theorem key_PowerOfX (q n : Int) : ∃ (r : List Int) (o : Bool), r.length ≤ 1048576 ∧ (∀ (w : World), Calls Tryz.prog 26 #[.int .i64 q, .int .i64 n] w fun e w' => ∃ v, e = .returned (.tuple #[v, .bool o]) ∧ Row w' w.heap.size v r ∧ Below w.heap.size w w') ∧
      (∀ (w : World), Calls Tryz.prog 25 #[.int .i64 q, .int .i64 n] w fun e w' => ∃ v, e = .returned (.tuple #[v, .bool o]) ∧ Row w' w.heap.size v r ∧ Below w.heap.size w w') := by
  cases h : (isSz q && okE n) with
  | false => exact ⟨[], false, by simp, fun w => (spec_PowerOfX_no q n w h).mono fun _ _ ⟨he, hb⟩ => ⟨_, he, Row.nil _ _, hb⟩, fun w => (impl_PowerOfX_no q n w h).mono fun _ _ ⟨he, hb⟩ => ⟨_, he, Row.nil _ _, hb⟩⟩
  | true =>
    obtain ⟨m, k, rfl, rfl, hs, hk⟩ := asked_nat h
    have hq := isSz_le (m : Int) hs
    exact ⟨_, true, by have := ptl_len m (fun a => pw m (a : Int) k); omega, fun w => spec_PowerOfX_yes m k w hs hk, fun w => impl_PowerOfX_yes m k w hs hk⟩
set_option maxHeartbeats 1000000 in
theorem spec_DicksonOf_yes (m k : Nat) (a : Int) (w : World) (ha : inE (m : Int) a = true) (hk : k ≤ 400) :
    Calls Tryz.prog 37 #[.int .i64 m, .int .i64 k, .int .i64 a] w fun e w' => ∃ v, e = .returned (.tuple #[v, .bool true]) ∧ Row w' w.heap.size v (ptl m (dkt m a k)) ∧ Below w.heap.size w w' := by
  obtain ⟨h, a0, a1⟩ := inE_yes ha
  have HA := Lib.hid (fun w => asked_yes m k w h hk)
  have HI := Lib.hid (fun w => fdIn_any (m : Int) a w)
  rw [ha] at HI
  have HK := Lib.hid (fun w => kdDickson_any m k a w h ⟨a0, a1⟩ (by omega))
  have HS := Lib.hid h
  clear h ha
  go_enter Tryz.func37, Tryz.ntmps37
  go_wp2_with fail
  refine (HA.out _).mono ?_
  rintro e w1 ⟨rfl, hb1⟩
  obtain ⟨hc1, hf1⟩ := bcell hb1; have hz1 := hb1.size; (try simp at hz1); have HB1 := Lib.hid hb1; clear hb1
  go_wp2_with fail
  refine (HI.out _).mono ?_
  rintro e w3 ⟨rfl, hb3⟩
  obtain ⟨hc3, hf3⟩ := bcell hb3; have hz3 := hb3.size; (try simp at hz3); have HB3 := Lib.hid hb3; clear hb3
  go_wp2_with fail
  refine (HK.out _).mono ?_
  rintro e w2 ⟨v2, rfl, hr2, hb2⟩
  obtain ⟨hc2, hf2⟩ := bcell hb2; have hz2 := hb2.size; (try simp at hz2); have HB2 := Lib.hid hb2; clear hb2
  have HR2 := Lib.hid hr2; clear hr2
  go_wp2
  go_ret2
  have hb1 := HB1.out
  have hb3 := HB3.out
  have hb2 := HB2.out
  exact ⟨_, rfl, (HR2.out.row HS.out).mono (by (try simp); omega), by (repeat' (first | (with_reducible assumption) | (with_reducible exact Below.refl _ _) | (with_reducible refine below_drewN ?_ _) | (with_reducible refine Below.drew ?_) | (with_reducible refine Below.alloc ?_ ?_ _) | (with_reducible refine Below.setCell ?_ ?_ _) | (with_reducible refine Below.trans ?_ (Below.mono (by assumption) ?_)) | (with_reducible exact Nat.le_refl _) | (with_reducible assumption) | omega | (simp; omega) | (simp; done)))⟩
set_option maxHeartbeats 1000000 in
theorem impl_DicksonOf_yes (m k : Nat) (a : Int) (w : World) (ha : inE (m : Int) a = true) (hk : k ≤ 400) :
    Calls Tryz.prog 36 #[.int .i64 m, .int .i64 k, .int .i64 a] w fun e w' => ∃ v, e = .returned (.tuple #[v, .bool true]) ∧ Row w' w.heap.size v (ptl m (dkt m a k)) ∧ Below w.heap.size w w' := by
  obtain ⟨h, a0, a1⟩ := inE_yes ha
  have HF := Lib.hid (fun w => elementOf_yes (m : Int) a w ha)
  have HX := Lib.hid (fun w => isExp_yes k w hk)
  have HP := Lib.hid (fun w => dicksonT m k a w h ⟨a0, a1⟩ hk)
  have HN := Lib.hid (fun v t w hv => numbersT m v t w h hv)
  clear h ha
  go_enter Tryz.func36, Tryz.ntmps36
  go_wp2_with fail
  refine (HF.out _).mono ?_
  rintro e w1 ⟨rfl, hb1⟩
  obtain ⟨hc1, hf1⟩ := bcell hb1; have hz1 := hb1.size; (try simp at hz1); have HB1 := Lib.hid hb1; clear hb1
  go_wp2_with fail
  refine (HX.out _).mono ?_
  rintro e w2 ⟨rfl, hb2⟩
  obtain ⟨hc2, hf2⟩ := bcell hb2; have hz2 := hb2.size; (try simp at hz2); have HB2 := Lib.hid hb2; clear hb2
  go_wp2_with fail
  refine (HP.out _).mono ?_
  rintro e w3 ⟨v3, rfl, hv3, hb3⟩
  obtain ⟨hc3, hf3⟩ := bcell hb3; have hz3 := hb3.size; (try simp at hz3); have HB3 := Lib.hid hb3; clear hb3
  have HV3 := Lib.hid hv3; clear hv3
  go_wp2_with fail
  refine (HN.out _ _ _ HV3.out).mono ?_
  rintro e w4 ⟨v4, rfl, hr4, hb4⟩
  obtain ⟨hc4, hf4⟩ := bcell hb4; have hz4 := hb4.size; (try simp at hz4); have HB4 := Lib.hid hb4; clear hb4
  have HR4 := Lib.hid hr4; clear hr4
  go_wp2
  go_ret2
  have hb1 := HB1.out
  have hb2 := HB2.out
  have hb3 := HB3.out
  have hb4 := HB4.out
  exact ⟨_, rfl, HR4.out.mono (by (try simp); omega), by (repeat' (first | (with_reducible assumption) | (with_reducible exact Below.refl _ _) | (with_reducible refine below_drewN ?_ _) | (with_reducible refine Below.drew ?_) | (with_reducible refine Below.alloc ?_ ?_ _) | (with_reducible refine Below.setCell ?_ ?_ _) | (with_reducible refine Below.trans ?_ (Below.mono (by assumption) ?_)) | (with_reducible exact Nat.le_refl _) | (with_reducible assumption) | omega | (simp; omega) | (simp; done)))⟩
theorem spec_DicksonOf_no (q n a : Int) (w : World) (h : ((isSz q && okE n) && inE q a) = false) :
    Calls Tryz.prog 37 #[.int .i64 q, .int .i64 n, .int .i64 a] w fun e w' => e = .returned (.tuple #[.slice none 0 0, .bool false]) ∧ Below w.heap.size w w' := by
  have HA := Lib.hid (fun w => kdAsked_any q n w)
  have HI := Lib.hid (fun w => fdIn_any q a w)
  cases h1 : (isSz q && okE n) with
  | false =>
    rw [h1] at HA
    clear h h1
    go_enter Tryz.func37, Tryz.ntmps37
    go_wp2_with fail
    refine (HA.out _).mono ?_
    rintro e w1 ⟨rfl, hb1⟩
    go_wp2
    go_ret2
    exact ⟨rfl, hb1⟩
  | true =>
    rw [h1, Bool.true_and] at h
    rw [h1] at HA
    rw [h] at HI
    clear h h1
    go_enter Tryz.func37, Tryz.ntmps37
    go_wp2_with fail
    refine (HA.out _).mono ?_
    rintro e w1 ⟨rfl, hb1⟩
    have hz_hb1 := hb1.size; (try simp at hz_hb1)
    go_wp2_with fail
    refine (HI.out _).mono ?_
    rintro e w2 ⟨rfl, hb2⟩
    go_wp2
    go_ret2
    exact ⟨rfl, by (repeat' (first | (with_reducible assumption) | (with_reducible exact Below.refl _ _) | (with_reducible refine below_drewN ?_ _) | (with_reducible refine Below.drew ?_) | (with_reducible refine Below.alloc ?_ ?_ _) | (with_reducible refine Below.setCell ?_ ?_ _) | (with_reducible refine Below.trans ?_ (Below.mono (by assumption) ?_)) | (with_reducible exact Nat.le_refl _) | (with_reducible assumption) | omega | (simp; omega) | (simp; done)))⟩
theorem impl_DicksonOf_no (q n a : Int) (w : World) (h : ((isSz q && okE n) && inE q a) = false) :
    Calls Tryz.prog 36 #[.int .i64 q, .int .i64 n, .int .i64 a] w fun e w' => e = .returned (.tuple #[.slice none 0 0, .bool false]) ∧ Below w.heap.size w w' := by
  cases ha : inE q a with
  | false =>
    have HF := Lib.hid (fun w => elementOf_no q a w ha)
    clear h ha
    go_enter Tryz.func36, Tryz.ntmps36
    go_wp2_with fail
    refine (HF.out _).mono ?_
    rintro e w1 ⟨rfl, hb1⟩
    obtain ⟨hc1, hf1⟩ := bcell hb1; have hz1 := hb1.size; (try simp at hz1); have HB1 := Lib.hid hb1; clear hb1
    go_wp2
    go_ret2
    have hb1 := HB1.out
    exact ⟨rfl, by (repeat' (first | (with_reducible assumption) | (with_reducible exact Below.refl _ _) | (with_reducible refine below_drewN ?_ _) | (with_reducible refine Below.drew ?_) | (with_reducible refine Below.alloc ?_ ?_ _) | (with_reducible refine Below.setCell ?_ ?_ _) | (with_reducible refine Below.trans ?_ (Below.mono (by assumption) ?_)) | (with_reducible exact Nat.le_refl _) | (with_reducible assumption) | omega | (simp; omega) | (simp; done)))⟩
  | true =>
    have HF := Lib.hid (fun w => elementOf_yes q a w ha)
    have HX := Lib.hid (fun w => isExponentE n w)
    rw [inE_only h ha] at HX
    clear h ha
    go_enter Tryz.func36, Tryz.ntmps36
    go_wp2_with fail
    refine (HF.out _).mono ?_
    rintro e w1 ⟨rfl, hb1⟩
    obtain ⟨hc1, hf1⟩ := bcell hb1; have hz1 := hb1.size; (try simp at hz1); have HB1 := Lib.hid hb1; clear hb1
    go_wp2_with fail
    refine (HX.out _).mono ?_
    rintro e w2 ⟨rfl, hb2⟩
    obtain ⟨hc2, hf2⟩ := bcell hb2; have hz2 := hb2.size; (try simp at hz2); have HB2 := Lib.hid hb2; clear hb2
    go_wp2
    go_ret2
    have hb1 := HB1.out
    have hb2 := HB2.out
    exact ⟨rfl, by (repeat' (first | (with_reducible assumption) | (with_reducible exact Below.refl _ _) | (with_reducible refine below_drewN ?_ _) | (with_reducible refine Below.drew ?_) | (with_reducible refine Below.alloc ?_ ?_ _) | (with_reducible refine Below.setCell ?_ ?_ _) | (with_reducible refine Below.trans ?_ (Below.mono (by assumption) ?_)) | (with_reducible exact Nat.le_refl _) | (with_reducible assumption) | omega | (simp; omega) | (simp; done)))⟩
theorem key_DicksonOf (q n a : Int) : ∃ (r : List Int) (o : Bool), r.length ≤ 1048576 ∧ (∀ (w : World), Calls Tryz.prog 37 #[.int .i64 q, .int .i64 n, .int .i64 a] w fun e w' => ∃ v, e = .returned (.tuple #[v, .bool o]) ∧ Row w' w.heap.size v r ∧ Below w.heap.size w w') ∧
      (∀ (w : World), Calls Tryz.prog 36 #[.int .i64 q, .int .i64 n, .int .i64 a] w fun e w' => ∃ v, e = .returned (.tuple #[v, .bool o]) ∧ Row w' w.heap.size v r ∧ Below w.heap.size w w') := by
  cases h : ((isSz q && okE n) && inE q a) with
  | false => exact ⟨[], false, by simp, fun w => (spec_DicksonOf_no q n a w h).mono fun _ _ ⟨he, hb⟩ => ⟨_, he, Row.nil _ _, hb⟩, fun w => (impl_DicksonOf_no q n a w h).mono fun _ _ ⟨he, hb⟩ => ⟨_, he, Row.nil _ _, hb⟩⟩
  | true =>
    obtain ⟨m, k, rfl, rfl, hs, hk⟩ := asked2_nat h
    have hq := isSz_le (m : Int) (inE_yes hs).1
    exact ⟨_, true, by have := ptl_len m (dkt m a k); omega, fun w => spec_DicksonOf_yes m k a w hs hk, fun w => impl_DicksonOf_yes m k a w hs hk⟩
/-- What JoinDickson is asked of. -/
def in20 (x : Int) : Bool := decide (0 ≤ x) && decide (x ≤ 20)
theorem in20_nat {x : Int} (h : in20 x = true) : ∃ k : Nat, x = (k : Int) ∧ k ≤ 20 := by
  simp only [in20, Bool.and_eq_true, decide_eq_true_eq] at h
  exact ⟨x.toNat, by omega, by omega⟩
theorem in20_of {k : Nat} (h : k ≤ 20) : (decide (0 ≤ (k : Int)) && decide ((k : Int) ≤ 20)) = true := by
  simp only [Bool.and_eq_true, decide_eq_true_eq]
  omega
theorem in20_no {x : Int} (h : in20 x = false) : x < 0 ∨ 0 ≤ x ∧ 20 < x := by
  simp only [in20, Bool.and_eq_false_iff, decide_eq_false_iff_not] at h
  omega
/-- The table of JoinDickson. -/
def jdt (m M N : Nat) (a : Int) : Nat → Int := fun x => dkt m (pw m a N) M (dkt m a N x).toNat
end Go.Proofs.YtapglncgicfjnabGreat
