/- The model's counts of places: vaCounts, vaSet, vaValues, by contracts. -/
import Derived.Test.YtgndlpdcebmgmabKI
import Derived.Test.YtgndlpdcebmgmabOA
namespace Go.Proofs.Ytgndlpdcebmgmab
open Go.RowKit
theorem part0_z (m : Nat) : fl (part0 (fun _ => 0) 0) m = fl (fun _ => 0) m := fl_congr fun i _ => by simp [part0]
set_option maxHeartbeats 2000000 in
/-- spec.vaCounts. -/
theorem vaCounts_any (m n : Nat) (v : Value) (t : Nat → Int) (w : World) (hm : 1 ≤ m ∧ m ≤ 16) (hv : Sl w v (fl t n)) (ht : ∀ i, i < n → El (m : Int) (t i)) (hn : n ≤ 1000) :
    Calls Try.prog 116 #[.int .i64 m, v] w fun e w' => ∃ g, e = .returned (.slice (some ⟨g, 0, none⟩) m m) ∧ w.heap.size ≤ g ∧ g < w'.heap.size ∧ Row w' w.heap.size (.slice (some ⟨g, 0, none⟩) m m) (fl (oc t n) m) ∧ Below w.heap.size w w' := by
  obtain ⟨i0, hi, iz0, iz1, iz2⟩ := info_parts Try.infoI
  obtain ⟨a, cap, rfl, hcc⟩ := hv.parts
  have HT := Lib.hid ht
  have HCL := Lib.hid hcc
  have HBD := Lib.hid (oc_bd t)
  have HSU := Lib.hid (oc_succ t)
  clear hv hcc ht
  go_enter Try.func116, Try.ntmps116
  go_wp2_with (at_make; refine wpList_make_full _ rfl _ _ 25 rfl w.heap.size 3 i0 (.int .i64 0) 1 Try.underlying25 hi iz0 iz1 .i64 .i64 _ _ m rfl rfl rfl rfl ?c3 ?c4 ?c5 ?_)
  case c3 => rw [iz2]; omega
  case c4 => unfold maxLen; omega
  case c5 => omega
  intro w1 hown hgrow
  have HR : Hid (Row w1 w.heap.size (.slice (some ⟨w.heap.size, 0, none⟩) m m) (fl (oc t 0) m)) := Lib.hid (by
    have := Row.madeF (fun _ => 0) hown
    rw [part0_z] at this
    exact this)
  have HB := Lib.hid ((Below.refl w.heap.size w).grown hgrow (Nat.le_refl _) (fun k hk => by cases hk))
  have hgl : w.heap.size < w1.heap.size := (HR.out.lt w.heap.size rfl).2
  clear hown hgrow
  go_wp2_with fail
  go_loopw [12] (fun vi wr => ∃ i : Nat, i ≤ n ∧ vi = .int .i64 i ∧ Row wr w.heap.size (.slice (some ⟨w.heap.size, 0, none⟩) m m) (fl (oc t i) m) ∧ w.heap.size < wr.heap.size ∧ Below w.heap.size w wr) (fun vi _ => n - (intOf vi).toNat)
  case atStart => exact ⟨0, Nat.zero_le _, rfl, HR.out, hgl, HB.out⟩
  case round =>
    obtain ⟨i, hin, rfl, hr, hgl', hbw⟩ := hrel
    by_cases hlt : i < n
    · obtain ⟨b, off, rfl, hb, hc⟩ := HCL.out (by omega)
      have hcell := (hbw.cell (p := ⟨b, off + i, none⟩) hb).trans (hc i hlt)
      have hte := HT.out i hlt
      obtain ⟨k, hk⟩ := Int.eq_ofNat_of_zero_le hte.1
      rw [hk] at hcell
      have hk2 : k < m := by have := hte.2; omega
      have e2 := Row.cell (l := fl (oc t i) m) (cap := m) (by rw [fl_len]; exact hr) k (by rw [fl_len]; exact hk2)
      rw [fl_get _ _ _ hk2] at e2
      have f2 := hr.frozen (by rw [fl_len]) k
      have HST := Lib.hid (hr.store (by rw [fl_len]) k (oc t i k + 1))
      have HUP := Lib.hid (HSU.out i k hk)
      have hbd := HBD.out i k
      have HBW := Lib.hid hbw
      clear hr hbw hc hte hk
      generalize hcc : oc t i k = c at *
      clear hcc
      go_wp2
      go_roundw
      case rel =>
        refine ⟨i + 1, by omega, by go_num, ?_, by simp; omega, HBW.out.setCell (Nat.le_refl _) _⟩
        rw [HUP.out, ← fl_set]
        exact HST.out
      case measure => (simp [intOf]; try omega)
    · obtain rfl : n = i := by omega
      have HRr := Lib.hid hr
      have HBW := Lib.hid hbw
      clear hr hbw
      go_wp2
      go_ret
      exact ⟨_, rfl, Nat.le_refl _, hgl', HRr.out, HBW.out⟩
end Go.Proofs.Ytgndlpdcebmgmab
