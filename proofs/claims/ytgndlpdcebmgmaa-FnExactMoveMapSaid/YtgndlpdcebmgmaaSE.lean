/- slices.Grow from nothing, slices.Concat of slices of numbers, by contracts. -/
import Derived.Test.YtgndlpdcebmgmaaSA
import Derived.Test.YtgndlpdcebmgmaaLV
import Derived.Lib.AppendZerosOnto
import Derived.Lib.AppendZeros
namespace Go.Proofs.Ytgndlpdcebmgmaa
open Go.RowKit
set_option maxRecDepth 100000 in
set_option maxHeartbeats 4000000 in
/-- slices.Grow of nothing. -/
theorem growI (n : Nat) (w : World) (h1 : 1 ≤ n) (hn : n ≤ 1000) :
    Calls Try.prog 138 #[.slice none 0 0, .int .i64 n] w fun e w' => ∃ v, e = .returned v ∧ Row w' w.heap.size v [] ∧ Below w.heap.size w w' := by
  obtain ⟨i0, hi, iz0, iz1, iz2⟩ := info_parts Try.infoI
  obtain ⟨G, hG⟩ : ∃ G, G = grownCap w (0 + n) 0 3 := ⟨_, rfl⟩
  obtain ⟨cur, hcur⟩ : ∃ cur : Array Value, cur = ([] : List Value).toArray ++ Builtin.zeroCells (Value.int .i64 0).cells n ++ Builtin.zeroCells (Value.int .i64 0).cells (G - (0 + n)) := ⟨_, rfl⟩
  have hrz : ∀ ty, (Builtin.append_ #[22, 3] ty #[.slice none 0 0, .int .i64 (n : Int)]).run Try.prog w = .ok (.slice (some ⟨w.heap.size, 0, none⟩) n G) (w.drew.alloc (.cells cur 3)) := fun ty => by
    have h := Lib.run_append_grow_zeros w 22 3 ty 3 i0 (.int .i64 0) .i64 .i64 Try.underlying22 Try.underlying3 hi iz0 none 0 0 [] (run_firstCells_none w.drew i0.size 0 0 0) n h1 (by rw [iz1]; decide) (by omega) (by omega) (by rw [iz2]; omega) (growslice_fits (by omega) (by rw [iz2]; omega))
    rw [← hG] at h
    rw [hcur]
    simpa using h
  have hGn : n ≤ G := by
    have := grownCap_ge w (0 + n) 0 3
    rw [hG]; omega
  have hG63 : G ≤ maxLen := by
    rw [hG]
    exact grownCap_le_maxLen w _ _ _ (by unfold maxLen; omega)
  have hsz : cur.size = G * 1 := by
    rw [hcur]
    simp [Builtin.zeroCells, Value.cells]
    omega
  clear hG hcur
  have h2 : ¬ ((n : Int) < 0) := by omega
  have h3 : (n : Int) > 0 := by omega
  have h4 : IntKind.i64.wrap (n : Int) = n := IntWalk.i64_in _ (by omega)
  go_enter Try.func138, Try.ntmps138
  go_wp2_with (at_builtin; refine Lib.wpList_append_run _ rfl _ _ _ _ rfl _ _ rfl rfl _ _ (hrz _) ?_)
  all_goals
    go_ret
    refine ⟨_, rfl, ⟨rfl, .inr ⟨w.heap.size, G, cur, rfl, Nat.le_refl _, ?_, Nat.zero_le _, hG63, hsz, by simp⟩⟩, ?_⟩
    · exact heap_alloc_new w (.cells cur 3)
    · (repeat' (first | (with_reducible assumption) | (with_reducible exact Below.refl _ _) | (with_reducible refine below_drewN ?_ _) | (with_reducible refine Below.drew ?_) | (with_reducible refine Below.alloc ?_ ?_ _) | (with_reducible refine Below.setCell ?_ ?_ _) | (with_reducible refine Below.trans ?_ (Below.mono (by assumption) ?_)) | (with_reducible exact Nat.le_refl _) | (with_reducible assumption) | omega | (simp; omega) | (simp; done)))
/-- The lists, one behind the other. -/
def cat (F : Nat → List Int) : Nat → List Int
  | 0 => []
  | k + 1 => cat F k ++ F k
theorem cat_len (F : Nat → List Int) (d : Nat) : ∀ k, (∀ i, i < k → (F i).length = d) → (cat F k).length = k * d := by
  intro k
  induction k with
  | zero => intro _; simp [cat]
  | succ k ih =>
    intro h
    show (cat F k ++ F k).length = _
    rw [List.length_append, ih fun i hi => h i (by omega), h k (by omega), Nat.succ_mul]
set_option maxRecDepth 100000 in
set_option maxHeartbeats 4000000 in
/-- slices.Concat of slices of d numbers each. -/
theorem concatE (k d B : Nat) (v : Value) (F : Nat → List Int) (X : Nat → Value) (w : World) (h : RS w B v k F X) (hF : ∀ i, i < k → (F i).length = d) (hd : 1 ≤ d ∧ d ≤ 16) (hk : 1 ≤ k ∧ k ≤ 16) :
    Calls Try.prog 123 #[v] w fun e w' => ∃ v', e = .returned v' ∧ Row w' w.heap.size v' (cat F k) ∧ Below w.heap.size w w' := by
  obtain ⟨i0, hi, iz0, iz1, iz2⟩ := info_parts Try.infoI
  obtain ⟨g, cap, rfl, hg, hgl, hcx⟩ := h.form (by omega)
  have HX : Hid (∀ i, i < k → ∃ b c, w.cell? ⟨g, i, none⟩ = some (.slice (some ⟨b, 0, none⟩) d c) ∧ b < w.heap.size ∧ ∀ w', Below w.heap.size w w' → ∀ j u, ((F i).map (Value.int .i64))[j]? = some u → w'.cell? ((⟨b, 0, none⟩ : Addr).add j) = some u) := Lib.hid fun i hi => by
    have hr := h.inner i hi
    have hl := hF i hi
    obtain ⟨b, c, hv, hb, hbl⟩ := hr.form (by omega)
    rw [hl] at hv
    refine ⟨b, c, ?_, hbl, fun w' hbw j u hj => ?_⟩
    · rw [hcx i hi, hv]
    · rw [List.getElem?_map] at hj
      have hjl : j < (F i).length := by
        rcases Nat.lt_or_ge j (F i).length with hh | hh
        · exact hh
        · rw [List.getElem?_eq_none hh] at hj; cases hj
      rw [List.getElem?_eq_getElem hjl] at hj
      simp at hj
      rw [hv] at hr
      have := Row.cell (l := F i) (cap := c) (by rw [hl]; exact hr.below hbw) j hjl
      rw [add_off, Nat.zero_add, this, ← hj]
      simp [List.getD, hjl]
  have HXl := Lib.hid (fun i (hi : i < k) => hF i hi)
  have HL := Lib.hid (fun i (hi : i ≤ k) => cat_len F d i (fun j hj => hF j (by omega)))
  have HS : Hid (∀ i, cat F (i + 1) = cat F i ++ F i) := Lib.hid fun _ => rfl
  have HC0 : Hid (cat F 0 = []) := Lib.hid rfl
  have HM : Hid (∀ i, i ≤ k → i * d ≤ 256) := Lib.hid fun i hi => Nat.le_trans (Nat.mul_le_mul (show i ≤ 16 by omega) hd.2) (by decide)
  have HG := Lib.hid (fun n w h1 h2 => growI n w h1 h2)
  clear h hF hcx
  generalize cat F = C at *
  go_enter Try.func123, Try.ntmps123
  go_wp2_with fail
  go_loopw [3, 11] (fun vs vi wr => ∃ i s : Nat, i ≤ k ∧ s = i * d ∧ vi = .int .i64 i ∧ vs = .int .i64 s ∧ w = wr) (fun _ vi _ => k - (intOf vi).toNat)
  case atStart => exact ⟨0, 0, Nat.zero_le _, by simp, rfl, rfl, rfl⟩
  case round =>
    obtain ⟨i, s, hik, hs, rfl, rfl, rfl⟩ := hrel
    have hm := HM.out i hik
    have HSS := Lib.hid hs
    have hs256 : s ≤ 256 := by omega
    clear hs hm
    by_cases hlt : i < k
    · obtain ⟨b, c, hc, hbl, _⟩ := HX.out i hlt
      have hm2 := HM.out (i + 1) hlt
      have HS2 : Hid (s + d = (i + 1) * d) := Lib.hid (by rw [HSS.out, Nat.succ_mul])
      have hw1 : IntKind.i64.wrap ((s : Int) + (d : Int)) = (s : Int) + (d : Int) := IntWalk.i64_in _ (by omega)
      have hneg : ¬ ((s : Int) + (d : Int) < 0) := by omega
      clear hm2
      go_wp2
      go_roundw
      case rel => exact ⟨i + 1, s + d, by omega, HS2.out, by go_num, by go_num, by first | rfl | trivial⟩
      case measure => (simp [intOf]; try omega)
    · obtain rfl : k = i := by omega
      have hs1 : 1 ≤ s := by
        have := HSS.out
        have h2 : 1 * 1 ≤ k * d := Nat.mul_le_mul hk.1 hd.1
        omega
      go_wp2_with fail
      refine (HG.out s _ hs1 (by omega)).mono ?_
      rintro e w1 ⟨v1, rfl, hr1, hb1⟩
      have HR1 := Lib.hid hr1
      have HB1 := Lib.hid hb1
      clear hr1 hb1
      go_wp2_with fail
      go_loopw [6, 27] (fun vs vi wr => ∃ i : Nat, i ≤ k ∧ vi = .int .i64 i ∧ Row wr w.heap.size vs (C i) ∧ Below w.heap.size w wr) (fun _ vi _ => k - (intOf vi).toNat)
      case atStart => exact ⟨0, Nat.zero_le _, rfl, by rw [HC0.out]; exact HR1.out, HB1.out⟩
      case round =>
        obtain ⟨i, hik2, rfl, hr, hbw⟩ := hrel
        have HR := Lib.hid hr
        have HBW := Lib.hid hbw
        have hz := hbw.size
        clear hr hbw
        by_cases hlt2 : i < k
        · obtain ⟨b, c, hc, hbl, hcc⟩ := HX.out i hlt2
          have hc2 := (HBW.out.cell (p := ⟨g, i, none⟩) hgl).trans hc
          have HCC := Lib.hid (hcc _ HBW.out)
          have HSi := Lib.hid (HS.out i)
          have HLi := Lib.hid (HL.out i hik2)
          have HMi := Lib.hid (HM.out i hik2)
          have HXi := Lib.hid (HXl.out i hlt2)
          clear hc hcc
          generalize F i = fi at *
          go_wp2_with (at_builtin; refine wpList_append_own _ rfl _ _ 22 rfl w.heap.size 3 i0 (.int .i64 0) 1 8 Try.underlying22 hi iz0 iz1 iz2 rfl (by decide) _ _ _ rfl HR.out ⟨b, 0, none⟩ d c (fi.map (Value.int .i64)) rfl ?c1 ?c2 ?c3 ?c4 ?c5 ?c6 ?_)
          case c1 => rw [List.length_map, HXi.out]; omega
          case c2 => exact HCC.out
          case c3 => intro u hu; obtain ⟨x, _, rfl⟩ := List.mem_map.1 hu; rfl
          case c4 => rw [HLi.out]; have := HMi.out; unfold maxLen; omega
          case c5 => rw [HLi.out]; have := HMi.out; omega
          case c6 => first | omega | (simp; omega)
          intro v' w6 hown hgrow _
          have HR6 : Hid (Row w6 w.heap.size v' (C i ++ fi)) := Lib.hid (by
            unfold Row
            rw [List.length_append, HXi.out, List.map_append]
            exact hown)
          have HB6 := Lib.hid (HBW.out.grown hgrow hz (fun g hg => (HR.out.lt g hg).1))
          clear hown hgrow
          go_wp2
          go_roundw
          case rel => exact ⟨i + 1, by omega, by go_num, by rw [HSi.out]; exact HR6.out, HB6.out⟩
          case measure => (simp [intOf]; try omega)
        · obtain rfl : k = i := by omega
          go_wp2
          go_ret
          exact ⟨_, rfl, HR.out, HBW.out⟩
end Go.Proofs.Ytgndlpdcebmgmaa
