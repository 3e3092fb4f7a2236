/- The model's counts of places: vaCounts, vaSet, vaValues, by contracts. -/
import Derived.Test.YtnmdcmbcackchabKI
import Derived.Test.YtnmdcmbcackchabOA
namespace Go.Proofs.Ytnmdcmbcackchab
open Go.RowKit
theorem part0_z (m : Nat) : fl (part0 (fun _ => 0) 0) m = fl (fun _ => 0) m := fl_congr fun i _ => by simp [part0]
set_option maxHeartbeats 2000000 in
/-- spec.vaCounts. -/
theorem vaCounts_any (m n : Nat) (v : Value) (t : Nat → Int) (w : World) (hm : 1 ≤ m ∧ m ≤ 16) (hv : Sl w v (fl t n)) (ht : ∀ i, i < n → El (m : Int) (t i)) (hn : n ≤ 1000) :
    Calls Try.prog 69 #[.int .i64 m, v] w fun e w' => ∃ g, e = .returned (.slice (some ⟨g, 0, none⟩) m m) ∧ w.heap.size ≤ g ∧ g < w'.heap.size ∧ Row w' w.heap.size (.slice (some ⟨g, 0, none⟩) m m) (fl (oc t n) m) ∧ Below w.heap.size w w' := by
  obtain ⟨i0, hi, iz0, iz1, iz2⟩ := info_parts Try.infoI
  obtain ⟨a, cap, rfl, hcc⟩ := hv.parts
  have HT := Lib.hid ht
  have HCL := Lib.hid hcc
  have HBD := Lib.hid (oc_bd t)
  have HSU := Lib.hid (oc_succ t)
  clear hv hcc ht
  go_enter Try.func69, Try.ntmps69
  go_wp2_with (at_make; refine wpList_make_full _ rfl _ _ 22 rfl w.heap.size 3 i0 (.int .i64 0) 1 Try.underlying22 hi iz0 iz1 .i64 .i64 _ _ m rfl rfl rfl rfl ?c3 ?c4 ?c5 ?_)
  case c3 => rw [iz2]; omega
  case c4 => unfold maxLen; omega
  case c5 => omega
  intro w1 hown hgrow
  have HR : Hid (Row w1 w.heap.size (.slice (some ⟨w.heap.size, 0, none⟩) m m) (fl (oc t 0) m)) := Lib.hid (by
    have := Row.madeF (fun _ => 0) hown
    rw [part0_z] at this
    exact this)
  have HB := Lib.hid ((Below.refl w.heap.size w).grown hgrow (Nat.le_refl _) (fun k hk => by cases hk))
  have hgl : w.heap.size < w1.heap.size := (HR.out.lt w.heap.size rfl).2
  clear hown hgrow
  go_wp2_with fail
  go_loopw [12] (fun vi wr => ∃ i : Nat, i ≤ n ∧ vi = .int .i64 i ∧ Row wr w.heap.size (.slice (some ⟨w.heap.size, 0, none⟩) m m) (fl (oc t i) m) ∧ w.heap.size < wr.heap.size ∧ Below w.heap.size w wr) (fun vi _ => n - (intOf vi).toNat)
  case atStart => exact ⟨0, Nat.zero_le _, rfl, HR.out, hgl, HB.out⟩
  case round =>
    obtain ⟨i, hin, rfl, hr, hgl', hbw⟩ := hrel
    by_cases hlt : i < n
    · obtain ⟨b, off, rfl, hb, hc⟩ := HCL.out (by omega)
      have hcell := (hbw.cell (p := ⟨b, off + i, none⟩) hb).trans (hc i hlt)
      have hte := HT.out i hlt
      obtain ⟨k, hk⟩ := Int.eq_ofNat_of_zero_le hte.1
      rw [hk] at hcell
      have hk2 : k < m := by have := hte.2; omega
      have e2 := Row.cell (l := fl (oc t i) m) (cap := m) (by rw [fl_len]; exact hr) k (by rw [fl_len]; exact hk2)
      rw [fl_get _ _ _ hk2] at e2
      have f2 := hr.frozen (by rw [fl_len]) k
      have HST := Lib.hid (hr.store (by rw [fl_len]) k (oc t i k + 1))
      have HUP := Lib.hid (HSU.out i k hk)
      have hbd := HBD.out i k
      have HBW := Lib.hid hbw
      clear hr hbw hc hte hk
      generalize hcc : oc t i k = c at *
      clear hcc
      go_wp2
      go_roundw
      case rel =>
        refine ⟨i + 1, by omega, by go_num, ?_, by simp; omega, HBW.out.setCell (Nat.le_refl _) _⟩
        rw [HUP.out, ← fl_set]
        exact HST.out
      case measure => (simp [intOf]; try omega)
    · obtain rfl : n = i := by omega
      have HRr := Lib.hid hr
      have HBW := Lib.hid hbw
      clear hr hbw
      go_wp2
      go_ret
      exact ⟨_, rfl, Nat.le_refl _, hgl', HRr.out, HBW.out⟩
set_option maxHeartbeats 2000000 in
/-- spec.vaSet. -/
theorem vaSet_any (m g cap : Nat) (c : Nat → Int) (w : World) (hm : m ≤ 16) (hg : g < w.heap.size) (hc : ∀ i, i < m → w.cell? ⟨g, i, none⟩ = some (.int .i64 (c i))) :
    Calls Try.prog 68 #[.slice (some ⟨g, 0, none⟩) m cap] w fun e w' => ∃ v, e = .returned v ∧ Row w' w.heap.size v (wh (fun y => decide (0 < c y)) m) ∧ Below w.heap.size w w' := by
  obtain ⟨i0, hi, iz0, iz1, iz2⟩ := info_parts Try.infoI
  have HC := Lib.hid hc
  have HI : Hid (∀ i, (fun y => decide (0 < c y)) i = decide (0 < c i)) := Lib.hid fun _ => rfl
  clear hc
  generalize (fun y => decide (0 < c y)) = P at *
  go_enter Try.func68, Try.ntmps68
  go_wp2_with fail
  go_loopw [3, 8] (fun vo vi wr => ∃ k : Nat, k ≤ m ∧ vi = .int .i64 k ∧ Row wr w.heap.size vo (wh P k) ∧ Below w.heap.size w wr) (fun _ vi _ => m - (intOf vi).toNat)
  case atStart => exact ⟨0, Nat.zero_le _, rfl, Row.nil _ _, Below.refl _ _⟩
  case round =>
    obtain ⟨k, hk, rfl, hr, hbw⟩ := hrel
    have hz := hbw.size
    have HL := Lib.hid (wh_len P k)
    by_cases hlt : k < m
    · have hc0 := (hbw.cell (p := ⟨g, k, none⟩) hg).trans (HC.out k hlt)
      have HR := Lib.hid hr; clear hr
      have HBW := Lib.hid hbw; clear hbw
      have HIk := Lib.hid (HI.out k)
      generalize c k = x at *
      by_cases hx : 0 < x
      · have HS := Lib.hid (wh_yes P k (by rw [HIk.out]; simpa using hx))
        go_wp2_with (at_builtin; refine wpList_append_own _ rfl _ _ 22 rfl w.heap.size 3 i0 (.int .i64 0) 1 8 Try.underlying22 hi iz0 iz1 iz2 rfl (by decide) _ _ _ rfl (World.ownsRow.alloc HR.out _) ⟨wr.heap.size, 0, none⟩ 1 1 [.int .i64 k] rfl rfl ?c1 ?c2 ?c3 ?c4 ?c5 ?_)
        case c1 => exact cell_one_new _ _ _
        case c2 => first | rfl | (intro u hu; simp at hu; subst hu; rfl)
        case c3 => have := HL.out; unfold maxLen; omega
        case c4 => have := HL.out; omega
        case c5 => first | omega | (simp; omega)
        intro v' w6 hown hgrow _
        have HR6 := Lib.hid (Row.appended hown)
        have hb : Below w.heap.size w (wr.alloc (.cells #[.int .i64 k] 3)) := HBW.out.alloc (by omega) _
        have HB6 := Lib.hid (hb.grown hgrow (by simp; omega) (fun g hg => (HR.out.lt g hg).1))
        clear hown hgrow hb
        go_wp2
        go_roundw
        case rel => exact ⟨k + 1, by omega, by go_num, by rw [HS.out]; exact HR6.out, HB6.out⟩
        case measure => simp [intOf]; omega
      · have HS := Lib.hid (wh_no P k (by rw [HIk.out]; simpa using hx))
        go_wp2
        go_roundw
        case rel => exact ⟨k + 1, by omega, by go_num, by rw [HS.out]; exact HR.out, HBW.out⟩
        case measure => simp [intOf]; omega
    · obtain rfl : m = k := by omega
      have HR := Lib.hid hr; clear hr
      have HBW := Lib.hid hbw; clear hbw
      go_wp2
      go_ret
      exact ⟨_, rfl, HR.out, HBW.out⟩
set_option maxHeartbeats 1000000 in
/-- spec.vaValues. -/
theorem vaValues_any (m n : Nat) (v : Value) (t : Nat → Int) (w : World) (hm : 1 ≤ m ∧ m ≤ 16) (hv : Sl w v (fl t n)) (ht : ∀ i, i < n → El (m : Int) (t i)) (hn : n ≤ 1000) :
    Calls Try.prog 42 #[.int .i64 m, v] w fun e w' => ∃ v', e = .returned v' ∧ Row w' w.heap.size v' (wh (mt t n) m) ∧ Below w.heap.size w w' := by
  have H1 := Lib.hid (vaCounts_any m n v t w hm hv ht hn)
  have HM : Hid (mt t n = fun y => decide (0 < oc t n y)) := Lib.hid rfl
  clear hv ht
  go_enter Try.func42, Try.ntmps42
  go_wp2_with fail
  refine H1.out.mono ?_
  rintro e w1 ⟨g, rfl, hg, hgl, hr, hb⟩
  have H2 := Lib.hid (vaSet_any m g m (oc t n) w1 hm.2 hgl fun i hi => by
    have := Row.cell (l := fl (oc t n) m) (by rw [fl_len]; exact hr) i (by rw [fl_len]; exact hi)
    rwa [fl_get _ _ _ hi] at this)
  have HB := Lib.hid hb
  have hz := hb.size
  clear hr hb
  go_wp2_with fail
  refine H2.out.mono ?_
  rintro e w2 ⟨v2, rfl, hr2, hb2⟩
  have HR2 := Lib.hid hr2
  have HB2 := Lib.hid hb2
  clear hr2 hb2
  go_wp2
  go_ret
  exact ⟨_, rfl, by rw [HM.out]; exact HR2.out.mono hz, HB.out.trans (HB2.out.mono hz)⟩
end Go.Proofs.Ytnmdcmbcackchab
