/- CountByValues of the program, by contracts. -/
import Derived.Test.YtnmdcmbcackchabQC
import Derived.Test.YtnmdcmbcackchabPA
namespace Go.Proofs.Ytnmdcmbcackchab
open Go.RowKit
theorem part0_zc (m : Nat) : fl (part0 (fun _ => 0) 0) m = fl (fun _ => 0) m := fl_congr fun i _ => by simp [part0]
theorem cvc_zero (m d : Nat) : cvc m d 0 = fun _ => 0 := by
  funext y
  show ((fms m d : Nat) : Int) * 0 = 0
  simp
theorem rnd_few {m d : Nat} (hm : 2 ≤ m) (hm16 : m ≤ 16) (hf : few m d = true) : m * rnd m d ≤ 20000 ∧ rnd m d ≤ 20000 := by
  have hpow := few_pow hm hf
  have h1 : m * rnd m d ≤ 20000 := by
    unfold rnd
    by_cases h0 : d = 0
    · rw [if_pos h0]; omega
    · rw [if_neg h0]
      obtain ⟨e, rfl⟩ : ∃ e, d = e + 1 := ⟨d - 1, by omega⟩
      rw [Nat.add_sub_cancel]
      rw [Nat.pow_succ, Nat.mul_comm] at hpow
      exact hpow
  refine ⟨h1, ?_⟩
  have : 1 * rnd m d ≤ m * rnd m d := Nat.mul_le_mul_right _ (by omega)
  omega
set_option maxRecDepth 100000 in
set_option maxHeartbeats 8000000 in
/-- impl.field.countByValues. -/
theorem countByE (m d : Nat) (w : World) (h : isSz (m : Int) = true) (hdm : d < m) (hf : few m d = true) :
    Calls Try.prog 46 #[fdE (m : Int), .int .i64 d] w fun e w' => ∃ v, e = .returned v ∧ Row w' w.heap.size v (fl (cvc m d (rnd m d)) (m + 1)) ∧ Below w.heap.size w w' := by
  obtain ⟨i0, hi, iz0, iz1, iz2⟩ := info_parts Try.infoI
  have hq := isSz_le (m : Int) h
  have hpow := few_pow (by omega) hf
  have hge := rnd_ge (m := m) (d := d) (by omega)
  obtain ⟨hQ3, hrl⟩ := rnd_few (by omega) (by omega) hf
  have HZ := Lib.hid (cvc_zero m d)
  have HEACH := Lib.hid (fun (W : World) (C : Nat) (hW : W.heap.size = C + 1) (hs : NC w (W.alloc (ffblk (m : Int))) m d 0 C) => eachPlain_CV m d (rnd m d) C (w.heap.size + 1) (fun k wr => NC w wr m d k C) W h hdm (by omega)
    (fun k hk => rnd_lt (by omega) k hk) hge.1 (by omega) hs (fun k w' hn => by rw [hW]; exact hn.hf) (fun k w1 w2 hn hb => hn.below hb)
    (fun k g wr w' hk hn hb _ hg he => cvClo m d k g C w wr w' h hdm (by omega) hn hb hg he))
  have hfm : ((fms m d : Nat) : Int) = (if d = 0 then (m : Int) - 1 else ((m : Int) - 1) * (m : Int)) := by
    unfold fms
    by_cases h0 : d = 0
    · rw [if_pos h0, if_pos h0]; omega
    · rw [if_neg h0, if_neg h0, Int.natCast_mul, show ((m - 1 : Nat) : Int) = (m : Int) - 1 by omega]
  have hfb := (cvc_bd (m := m) (d := d) (k := 0) (by omega) (by omega) 0).2.2
  generalize hFd : fms m d = F at *
  clear hge h hf hpow
  generalize rnd m d = Q at *
  have hw1 : IntKind.i64.wrap ((m : Int) - 1) = (m : Int) - 1 := IntWalk.i64_in _ (by omega)
  have hwm : IntKind.i64.wrap ((m : Int) + 1) = (m : Int) + 1 := IntWalk.i64_in _ (by omega)
  have hT2 := two w (ffblk (m : Int)) (.cells #[.int .i64 ((m : Int) - 1)] 3)
  by_cases h0 : d = 0
  · rw [if_pos h0] at hfm
    subst h0
    have HFM := Lib.hid hfm
    clear hfm
    go_enter Try.func46, Try.ntmps46
    go_wp2_with (at_make; refine wpList_make_full _ rfl _ _ 22 rfl (w.heap.size + 2) 3 i0 (.int .i64 0) 1 Try.underlying22 hi iz0 iz1 .i64 .i64 _ _ (m + 1) rfl rfl rfl rfl ?c3 ?c4 (by first | (simp; done) | (simp; omega) | omega) ?_)
    case c3 => first | (rw [iz2]; omega) | omega
    case c4 => unfold maxLen; omega
    intro w2 hown hgrow
    have HF2 : Hid (w2.heap[w.heap.size]? = some (ffblk (m : Int))) := Lib.hid ((hgrow.block _ (by simp; omega) (fun e => by cases e)).trans hT2.1)
    have HO2 : Hid (w2.heap[w.heap.size + 1]? = some (.cells #[.int .i64 (F : Int)] 3 (0, 0))) := Lib.hid (by rw [HFM.out]; exact (hgrow.block _ (by simp) (fun e => by cases e)).trans hT2.2)
    have hr : Row w2 (w.heap.size + 2) (.slice (some ⟨w.heap.size + 2, 0, none⟩) (m + 1) (m + 1)) (fl (cvc m 0 0) (m + 1)) := by
      have := Row.madeF (fun _ => 0) (by simpa using hown)
      rw [part0_zc] at this
      rw [HZ.out]
      exact this
    have HR2 := Lib.hid hr
    have hgl : w.heap.size + 2 < w2.heap.size := (hr.lt _ rfl).2
    have HB2 : Hid (Below w.heap.size w w2) := Lib.hid (Below.grown (by (repeat' (first | (with_reducible assumption) | (with_reducible exact Below.refl _ _) | (with_reducible refine below_drewN ?_ _) | (with_reducible refine Below.drew ?_) | (with_reducible refine Below.alloc ?_ ?_ _) | (with_reducible refine Below.setCell ?_ ?_ _) | (with_reducible refine Below.trans ?_ (Below.mono (by assumption) ?_)) | (with_reducible exact Nat.le_refl _) | (with_reducible assumption) | omega | (simp; omega) | (simp; done)))) hgrow (by simp; omega) (fun k hk => by cases hk))
    clear hown hgrow hr
    obtain ⟨x0, x1, x2, xf, xl⟩ := cells3' ((Below.heap_alloc w2 (.cells #[.slice (some ⟨w.heap.size + 1 + 1, 0, none⟩) (m + 1) (m + 1)] 22) _ (by omega)).trans HF2.out)
    have hsz : (w2.alloc (.cells #[.slice (some ⟨w.heap.size + 1 + 1, 0, none⟩) (m + 1) (m + 1)] 22)).heap.size = w2.heap.size + 1 := by simp
    have hbb : Below w.heap.size w ((w2.alloc (.cells #[.slice (some ⟨w.heap.size + 1 + 1, 0, none⟩) (m + 1) (m + 1)] 22)).alloc (ffblk (m : Int))) := by have hb2 := HB2.out; (repeat' (first | (with_reducible assumption) | (with_reducible exact Below.refl _ _) | (with_reducible refine below_drewN ?_ _) | (with_reducible refine Below.drew ?_) | (with_reducible refine Below.alloc ?_ ?_ _) | (with_reducible refine Below.setCell ?_ ?_ _) | (with_reducible refine Below.trans ?_ (Below.mono (by assumption) ?_)) | (with_reducible exact Nat.le_refl _) | (with_reducible assumption) | omega | (simp; omega) | (simp; done)))
    have HEP := Lib.hid (HEACH.out (w2.alloc (.cells #[.slice (some ⟨w.heap.size + 1 + 1, 0, none⟩) (m + 1) (m + 1)] 22)) w2.heap.size hsz
      ⟨hgl, by have := heap_alloc_new (w2.alloc (.cells #[.slice (some ⟨w.heap.size + 1 + 1, 0, none⟩) (m + 1) (m + 1)] 22)) (ffblk (m : Int)); rw [hsz] at this; exact this, (Below.heap_alloc _ _ _ (by simp)).trans (heap_alloc_new w2 _), by
        rw [hFd]
        exact (Below.heap_alloc _ _ _ (by simp; omega)).trans ((Below.heap_alloc _ _ _ (by omega)).trans HO2.out), (HR2.out.alloc _).alloc _, hbb⟩)
    clear hbb hsz
    rw [show ((0 : Nat) : Int) = 0 from rfl] at HEP
    go_wp2_with fail
    refine HEP.out.mono ?_
    rintro e w3 ⟨rfl, hn⟩
    have hvc := at_box hn.hc
    have HN := Lib.hid hn
    clear hn
    go_wp2
    go_ret
    exact ⟨_, rfl, HN.out.hr.mono (by omega), HN.out.bel⟩
  · rw [if_neg h0] at hfm
    have hd0 : (0 : Int) < (d : Int) := by omega
    have hfm' : ((m : Int) - 1) * (m : Int) = (F : Int) := hfm.symm
    have hwF : IntKind.i64.wrap (F : Int) = (F : Int) := IntWalk.i64_in _ (by omega)
    clear hfm
    go_enter Try.func46, Try.ntmps46
    go_wp2_with (at_make; refine wpList_make_full _ rfl _ _ 22 rfl (w.heap.size + 2) 3 i0 (.int .i64 0) 1 Try.underlying22 hi iz0 iz1 .i64 .i64 _ _ (m + 1) rfl rfl rfl rfl ?c3 ?c4 (by first | (simp; done) | (simp; omega) | omega) ?_)
    case c3 => first | (rw [iz2]; omega) | omega
    case c4 => unfold maxLen; omega
    intro w2 hown hgrow
    have HF2 : Hid (w2.heap[w.heap.size]? = some (ffblk (m : Int))) := Lib.hid ((hgrow.block _ (by simp; omega) (fun e => by cases e)).trans (two w (ffblk (m : Int)) (.cells #[.int .i64 (F : Int)] 3)).1)
    have HO2 : Hid (w2.heap[w.heap.size + 1]? = some (.cells #[.int .i64 (F : Int)] 3 (0, 0))) := Lib.hid ((hgrow.block _ (by simp) (fun e => by cases e)).trans (two w (ffblk (m : Int)) (.cells #[.int .i64 (F : Int)] 3)).2)
    have hr : Row w2 (w.heap.size + 2) (.slice (some ⟨w.heap.size + 2, 0, none⟩) (m + 1) (m + 1)) (fl (cvc m d 0) (m + 1)) := by
      have := Row.madeF (fun _ => 0) (by simpa using hown)
      rw [part0_zc] at this
      rw [HZ.out]
      exact this
    have HR2 := Lib.hid hr
    have hgl : w.heap.size + 2 < w2.heap.size := (hr.lt _ rfl).2
    have HB2 : Hid (Below w.heap.size w w2) := Lib.hid (Below.grown (by (repeat' (first | (with_reducible assumption) | (with_reducible exact Below.refl _ _) | (with_reducible refine below_drewN ?_ _) | (with_reducible refine Below.drew ?_) | (with_reducible refine Below.alloc ?_ ?_ _) | (with_reducible refine Below.setCell ?_ ?_ _) | (with_reducible refine Below.trans ?_ (Below.mono (by assumption) ?_)) | (with_reducible exact Nat.le_refl _) | (with_reducible assumption) | omega | (simp; omega) | (simp; done)))) hgrow (by simp; omega) (fun k hk => by cases hk))
    clear hown hgrow hr
    obtain ⟨x0, x1, x2, xf, xl⟩ := cells3' ((Below.heap_alloc w2 (.cells #[.slice (some ⟨w.heap.size + 1 + 1, 0, none⟩) (m + 1) (m + 1)] 22) _ (by omega)).trans HF2.out)
    have hsz : (w2.alloc (.cells #[.slice (some ⟨w.heap.size + 1 + 1, 0, none⟩) (m + 1) (m + 1)] 22)).heap.size = w2.heap.size + 1 := by simp
    have hbb : Below w.heap.size w ((w2.alloc (.cells #[.slice (some ⟨w.heap.size + 1 + 1, 0, none⟩) (m + 1) (m + 1)] 22)).alloc (ffblk (m : Int))) := by have hb2 := HB2.out; (repeat' (first | (with_reducible assumption) | (with_reducible exact Below.refl _ _) | (with_reducible refine below_drewN ?_ _) | (with_reducible refine Below.drew ?_) | (with_reducible refine Below.alloc ?_ ?_ _) | (with_reducible refine Below.setCell ?_ ?_ _) | (with_reducible refine Below.trans ?_ (Below.mono (by assumption) ?_)) | (with_reducible exact Nat.le_refl _) | (with_reducible assumption) | omega | (simp; omega) | (simp; done)))
    have HEP := Lib.hid (HEACH.out (w2.alloc (.cells #[.slice (some ⟨w.heap.size + 1 + 1, 0, none⟩) (m + 1) (m + 1)] 22)) w2.heap.size hsz
      ⟨hgl, by have := heap_alloc_new (w2.alloc (.cells #[.slice (some ⟨w.heap.size + 1 + 1, 0, none⟩) (m + 1) (m + 1)] 22)) (ffblk (m : Int)); rw [hsz] at this; exact this, (Below.heap_alloc _ _ _ (by simp)).trans (heap_alloc_new w2 _), by
        rw [hFd]
        exact (Below.heap_alloc _ _ _ (by simp; omega)).trans ((Below.heap_alloc _ _ _ (by omega)).trans HO2.out), (HR2.out.alloc _).alloc _, hbb⟩)
    clear hbb hsz
    go_wp2_with fail
    refine HEP.out.mono ?_
    rintro e w3 ⟨rfl, hn⟩
    have hvc := at_box hn.hc
    have HN := Lib.hid hn
    clear hn
    go_wp2
    go_ret
    exact ⟨_, rfl, HN.out.hr.mono (by omega), HN.out.bel⟩
set_option maxRecDepth 100000 in
set_option maxHeartbeats 4000000 in
/-- impl.field.hasFewOf. -/
theorem hasFewOfE (m d : Nat) (w : World) (h : isSz (m : Int) = true) (hdm : d < m) :
    Calls Try.prog 45 #[fdE (m : Int), .int .i64 d] w fun e w' => e = .returned (.bool (few m d)) ∧ Below w.heap.size w w' := by
  have hq := isSz_le (m : Int) h
  have hw1 : IntKind.i64.wrap ((m : Int) - 1) = (m : Int) - 1 := IntWalk.i64_in _ (by omega)
  have HFEW : Hid (∀ k, few m k = decide ((m - 1) * m ^ k ≤ 20000)) := Lib.hid fun _ => rfl
  have HPS : Hid (∀ k, (m - 1) * m ^ k * m = (m - 1) * m ^ (k + 1)) := Lib.hid fun k => by rw [Nat.pow_succ, Nat.mul_assoc]
  have HP0 : Hid (((m - 1) * m ^ 0 : Nat) = ((m : Int) - 1)) := Lib.hid (by simp; omega)
  have HMONO := Lib.hid (fun i (hi : i ≤ d) (hf : few m i = false) => few_mono (m := m) (k := i) (d := d) (by omega) hi hf)
  obtain ⟨ans, hans⟩ : ∃ x, few m d = x := ⟨_, rfl⟩
  rw [hans]
  have HANS := Lib.hid hans
  clear hans h
  have HB0 : Hid (Below w.heap.size w (w.alloc (ffblk (m : Int)))) := Lib.hid ((Below.refl _ _).alloc (Nat.le_refl _) _)
  go_enter Try.func45, Try.ntmps45
  go_wp2_with fail
  go_loopw [5, 6] (fun vc vi wr => ∃ i : Nat, i ≤ d ∧ vi = .int .i64 i ∧ vc = .int .i64 ((m - 1) * m ^ i : Nat) ∧ (i = 0 ∨ (m - 1) * m ^ i ≤ 320000) ∧ wr = w.alloc (ffblk (m : Int))) (fun _ vi _ => d - (intOf vi).toNat)
  case atStart => exact ⟨0, Nat.zero_le _, rfl, by rw [HP0.out], .inl rfl, rfl⟩
  case round =>
    obtain ⟨i, hi, rfl, rfl, hcap, rfl⟩ := hrel
    have hca : (m - 1) * m ^ i ≤ 320000 := by
      rcases hcap with rfl | h
      · simp; omega
      · exact h
    have hfi := HFEW.out i
    have HMI := Lib.hid (HMONO.out i hi)
    obtain ⟨x0, x1, x2, xf, xl⟩ := cells3' (heap_alloc_new w (ffblk (m : Int)))
    clear hcap
    by_cases hlt : i < d
    · have hs := HPS.out i
      obtain ⟨a', ha'⟩ : ∃ x, (m - 1) * m ^ (i + 1) = x := ⟨_, rfl⟩
      rw [ha'] at hs
      have HA' := Lib.hid ha'; clear ha'
      generalize (m - 1) * m ^ i = a at *
      have hmul : (a : Int) * (m : Int) = (a' : Int) := by rw [← hs]; rfl
      by_cases hsm : a ≤ 20000
      · have hab : a' ≤ 320000 := by rw [← hs]; exact Nat.le_trans (Nat.mul_le_mul hsm (show m ≤ 16 by omega)) (by omega)
        have hwa : IntKind.i64.wrap (a' : Int) = (a' : Int) := IntWalk.i64_in _ (by omega)
        have hsI : (a : Int) ≤ 20000 := by omega
        clear hs hfi
        go_wp2
        go_roundw
        case rel => exact ⟨i + 1, by omega, by go_num, by rw [HA'.out], .inr (by rw [HA'.out]; exact hab), by first | rfl | trivial⟩
        case measure => simp [intOf]; omega
      · have hsI : ¬ (a : Int) ≤ 20000 := by omega
        have HX : Hid (ans = false) := Lib.hid (by rw [← HANS.out]; exact HMI.out (by rw [hfi]; exact decide_eq_false hsm))
        clear hs hfi hmul
        go_wp2
        go_ret
        exact ⟨by rw [HX.out]; rfl, HB0.out⟩
    · obtain rfl : d = i := by omega
      have HX : Hid (ans = decide ((m - 1) * m ^ d ≤ 20000)) := Lib.hid (by rw [← HANS.out, hfi])
      generalize (m - 1) * m ^ d = a at *
      clear hfi
      by_cases hsm : a ≤ 20000
      · have hsI : (a : Int) ≤ 20000 := by omega
        go_wp2
        go_ret
        exact ⟨by rw [HX.out, decide_eq_true hsm]; rfl, HB0.out⟩
      · have hsI : ¬ (a : Int) ≤ 20000 := by omega
        go_wp2
        go_ret
        exact ⟨by rw [HX.out, decide_eq_false hsm]; rfl, HB0.out⟩
theorem impl_CountByValues_no (q d : Int) (w : World) (h : dOK q d 0 = false) :
    Calls Try.prog 18 #[.int .i64 q, .int .i64 d] w fun e w' => e = .returned (.tuple #[.slice none 0 0, .bool false]) ∧ Below w.heap.size w w' := by
  have HD := Lib.hid (fun w => fieldWithDegree_no q d 0 w h)
  clear h
  go_enter Try.func18, Try.ntmps18
  go_wp2_with fail
  refine (HD.out _).mono ?_
  rintro e w1 ⟨rfl, hb1⟩
  obtain ⟨hc1, hf1⟩ := bcell hb1; have hz1 := hb1.size; (try simp at hz1); have HB1 := Lib.hid hb1; clear hb1
  go_wp2
  go_ret2
  have hb1 := HB1.out
  exact ⟨rfl, by (repeat' (first | (with_reducible assumption) | (with_reducible exact Below.refl _ _) | (with_reducible refine below_drewN ?_ _) | (with_reducible refine Below.drew ?_) | (with_reducible refine Below.alloc ?_ ?_ _) | (with_reducible refine Below.setCell ?_ ?_ _) | (with_reducible refine Below.trans ?_ (Below.mono (by assumption) ?_)) | (with_reducible exact Nat.le_refl _) | (with_reducible assumption) | omega | (simp; omega) | (simp; done)))⟩
theorem impl_CountByValues_few (m d : Nat) (w : World) (h : isSz (m : Int) = true) (hdm : d < m) (hf : few m d = false) :
    Calls Try.prog 18 #[.int .i64 m, .int .i64 d] w fun e w' => e = .returned (.tuple #[.slice none 0 0, .bool false]) ∧ Below w.heap.size w w' := by
  have HD := Lib.hid (fun w => fieldWithDegree_yes (m : Int) (d : Int) 0 w (by simp [dOK, h]; omega))
  have HF := Lib.hid (fun w => hasFewOfE m d w h hdm)
  rw [hf] at HF
  clear h hf
  go_enter Try.func18, Try.ntmps18
  go_wp2_with fail
  refine (HD.out _).mono ?_
  rintro e w1 ⟨rfl, hb1⟩
  obtain ⟨hc1, hf1⟩ := bcell hb1; have hz1 := hb1.size; (try simp at hz1); have HB1 := Lib.hid hb1; clear hb1
  go_wp2_with fail
  refine (HF.out _).mono ?_
  rintro e w2 ⟨rfl, hb2⟩
  obtain ⟨hc2, hf2⟩ := bcell hb2; have hz2 := hb2.size; (try simp at hz2); have HB2 := Lib.hid hb2; clear hb2
  go_wp2
  go_ret2
  have hb1 := HB1.out
  have hb2 := HB2.out
  exact ⟨rfl, by (repeat' (first | (with_reducible assumption) | (with_reducible exact Below.refl _ _) | (with_reducible refine below_drewN ?_ _) | (with_reducible refine Below.drew ?_) | (with_reducible refine Below.alloc ?_ ?_ _) | (with_reducible refine Below.setCell ?_ ?_ _) | (with_reducible refine Below.trans ?_ (Below.mono (by assumption) ?_)) | (with_reducible exact Nat.le_refl _) | (with_reducible assumption) | omega | (simp; omega) | (simp; done)))⟩
theorem impl_CountByValues_yes (m d : Nat) (w : World) (h : isSz (m : Int) = true) (hdm : d < m) (hf : few m d = true) :
    Calls Try.prog 18 #[.int .i64 m, .int .i64 d] w fun e w' => ∃ v, e = .returned (.tuple #[v, .bool true]) ∧ Row w' w.heap.size v (fl (cvc m d (rnd m d)) (m + 1)) ∧ Below w.heap.size w w' := by
  have HD := Lib.hid (fun w => fieldWithDegree_yes (m : Int) (d : Int) 0 w (by simp [dOK, h]; omega))
  have HF := Lib.hid (fun w => hasFewOfE m d w h hdm)
  rw [hf] at HF
  have HC := Lib.hid (fun w => countByE m d w h hdm hf)
  clear h hf
  generalize fl (cvc m d (rnd m d)) (m + 1) = R at *
  go_enter Try.func18, Try.ntmps18
  go_wp2_with fail
  refine (HD.out _).mono ?_
  rintro e w1 ⟨rfl, hb1⟩
  have HB1 := Lib.hid hb1
  have hz1 := hb1.size
  clear hb1
  go_wp2_with fail
  refine (HF.out _).mono ?_
  rintro e w2 ⟨rfl, hb2⟩
  have hk2 := (hb2.block w1.heap.size (by simp)).trans (heap_alloc_new w1 (ffblk (m : Int)))
  obtain ⟨x0, x1, x2, xf, xl⟩ := cells3' hk2
  have HB2 : Hid (Below w.heap.size w w2) := Lib.hid ((HB1.out.alloc hz1 _).trans (hb2.mono (by simp; omega)))
  clear hb2
  go_wp2_with fail
  refine (HC.out _).mono ?_
  rintro e w3 ⟨v3, rfl, hr3, hb3⟩
  have HR3 := Lib.hid hr3
  have HB3 : Hid (Below w.heap.size w w3) := Lib.hid (HB2.out.trans (hb3.mono HB2.out.size))
  clear hr3 hb3
  go_wp2
  go_ret2
  exact ⟨_, rfl, HR3.out.mono HB2.out.size, HB3.out⟩
end Go.Proofs.Ytnmdcmbcackchab
