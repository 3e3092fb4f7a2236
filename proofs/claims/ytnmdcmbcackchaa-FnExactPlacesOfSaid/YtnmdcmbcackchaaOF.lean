/- impl.valueCounts.pairsAlike, areTwoToOne, by contracts. -/
import Derived.Test.YtnmdcmbcackchaaOC
import Derived.Test.YtnmdcmbcackchaaKP
import Derived.Deep.MidRow
namespace Go.Proofs.Ytnmdcmbcackchaa
open Go.RowKit
/-- The cells of the array of counts. -/
def VC (c : Nat → Int) : List Value := (List.range 16).map fun i => .int .i64 (c i)
theorem VC_get (c : Nat → Int) (i : Nat) (hi : i < 16) : (VC c)[i]? = some (.int .i64 (c i)) := by
  unfold VC
  rw [List.getElem?_map, List.getElem?_range hi]
  rfl
theorem VC_len (c : Nat → Int) : (VC c).length = 16 := by simp [VC]
theorem VC_range {w : World} {b : Nat} {q : Int} {c : Nat → Int} {T : TypeId} (h : w.heap[b]? = some (.cells (VA q c) T (0, 0))) : w.rangeAt b 3 (VC c) := fun j v hv => by
  have hj : j < 16 := by have := (List.getElem?_eq_some_iff.1 hv).1; rw [VC_len] at this; exact this
  rw [VC_get c j hj] at hv
  rw [← hv]
  exact (vcells h).2.2.2.1 j hj
theorem run_index16 (L : List Value) (i : Nat) (x : Int) (w : World) (hi16 : i < 16) (hg : L.toArray[i]? = some (.int .i64 x)) :
    (Instr.index 41 (.agg L.toArray) (.int .i64 (i : Int))).run Try.prog w = .ok (.int .i64 x) w := by
  obtain ⟨i0, hi, iz0, iz1, iz2⟩ := info_parts Try.infoI
  have h1 : (0 : Int) ≤ i ∧ (i : Int) < (16 : Nat) := by omega
  simp only [List.getElem?_toArray] at hg
  simp [Instr.index, asIntOf, run_underlying Try.underlying41, part, Sem.run_bind, sizeOf, typeInfo, hi, iz1, h1, hg, go_sem, hi16]
set_option maxRecDepth 100000 in
set_option maxHeartbeats 4000000 in
/-- impl.valueCounts.pairsAlike. -/
theorem pairsAlikeE (m : Nat) (c : Nat → Int) (w : World) (hc : ∀ y, 0 ≤ c y ∧ c y ≤ 16) :
    Calls Try.prog 49 #[.agg (VA (m : Int) c)] w fun e w' => e = .returned (.int .i64 (pa c 16)) ∧ Below w.heap.size w w' := by
  have hR := VC_range (heap_alloc_new w (.cells (VA (m : Int) c) 43))
  have hu := Try.underlying41
  have hi : (Try.prog.info? 41).map (·.size) = some (VC c).length := by rw [VC_len]; kernel_rfl
  have HG : Hid (∀ i : Nat, i < 16 → ∀ w, (Instr.index 41 (.agg (VC c).toArray) (.int .i64 (i : Int))).run Try.prog w = .ok (.int .i64 (c i)) w) := Lib.hid fun i hi w => run_index16 _ i _ w hi (by rw [List.getElem?_toArray]; exact VC_get c i hi)
  have HB := Lib.hid (fun y => half_bd (c y) (hc y).1 (hc y).2)
  have HCB := Lib.hid hc
  have HP := Lib.hid (pa_bd hc)
  have HS : Hid (∀ k, pa c (k + 1) = pa c k + (c k * (c k - 1)).tdiv 2) := Lib.hid fun _ => rfl
  have HB0 : Hid (Below w.heap.size w (w.alloc (.cells (VA (m : Int) c) 43))) := Lib.hid ((Below.refl _ _).alloc (Nat.le_refl _) _)
  clear hc
  generalize VA (m : Int) c = A at *
  generalize VC c = L at *
  go_enter Try.func49, Try.ntmps49
  go_wp2_with (first | refine wpList_load_mid rfl 41 _ rfl w.heap.size 3 rfl L _ hR hu rfl hi ?_ | fail)
  have hz : pa c 0 = 0 := rfl
  go_loopw [3, 8] (fun vs vi wr => ∃ i : Nat, i ≤ 16 ∧ vi = .int .i64 i ∧ vs = .int .i64 (pa c i) ∧ wr = w.alloc (.cells A 43)) (fun _ vi _ => 16 - (intOf vi).toNat)
  case atStart => exact ⟨0, by omega, rfl, by rw [hz], rfl⟩
  case round =>
    obtain ⟨i, hi16, rfl, rfl, rfl⟩ := hrel
    by_cases hlt : i < 16
    · have hg := HG.out i hlt (w.alloc (.cells A 43))
      obtain ⟨b1, b2, b3, b4⟩ := HB.out i
      obtain ⟨b5, b6⟩ := HP.out i
      obtain ⟨b7, b8⟩ := HCB.out i
      have HS' := Lib.hid (HS.out i)
      generalize pa c i = y at *
      generalize c i = x at *
      have h1 : IntKind.i64.wrap (x - 1) = x - 1 := IntWalk.i64_in _ (by omega)
      obtain ⟨p, hp⟩ : ∃ p, x * (x - 1) = p := ⟨_, rfl⟩
      rw [hp] at b1 b2 b3 b4 HS'
      have h2 : IntKind.i64.wrap p = p := IntWalk.i64_in _ (by omega)
      obtain ⟨d, hd⟩ : ∃ d, p.tdiv 2 = d := ⟨_, rfl⟩
      rw [hd] at b1 b2 HS'
      have h3 : IntKind.i64.wrap d = d := IntWalk.i64_in _ (by omega)
      have h4 : IntKind.i64.wrap (y + d) = y + d := IntWalk.i64_in _ (by omega)
      go_wp2_with (first | (simp only [hg, Result.andThen_ok]) | fail)
      go_roundw
      case rel => exact ⟨i + 1, by omega, by go_num, by rw [HS'.out], by first | rfl | trivial⟩
      case measure => simp [intOf]; omega
    · obtain rfl : i = 16 := by omega
      go_wp2
      go_ret
      exact ⟨rfl, HB0.out⟩
set_option maxRecDepth 100000 in
set_option maxHeartbeats 4000000 in
/-- impl.valueCounts.areTwoToOne. -/
theorem twoToOneE (m : Nat) (c : Nat → Int) (w : World) (hc : ∀ y, 0 ≤ c y ∧ c y ≤ 16) :
    Calls Try.prog 55 #[.agg (VA (m : Int) c)] w fun e w' => e = .returned (.bool (tw c 0 16 0)) ∧ Below w.heap.size w w' := by
  have hR := VC_range (heap_alloc_new w (.cells (VA (m : Int) c) 43))
  have hu := Try.underlying41
  have hi : (Try.prog.info? 41).map (·.size) = some (VC c).length := by rw [VC_len]; kernel_rfl
  have HG : Hid (∀ i : Nat, i < 16 → ∀ w, (Instr.index 41 (.agg (VC c).toArray) (.int .i64 (i : Int))).run Try.prog w = .ok (.int .i64 (c i)) w) := Lib.hid fun i hi w => run_index16 _ i _ w hi (by rw [List.getElem?_toArray]; exact VC_get c i hi)
  have HCB := Lib.hid hc
  have HT1 := Lib.hid (fun i n a h0 h => tw_big (c := c) (i := i) (n := n) (a := a) h0 h)
  have HT2 := Lib.hid (fun i n a h0 h => tw_one (c := c) (i := i) (n := n) (a := a) h0 h)
  have HT3 := Lib.hid (fun i n a h0 h h' => tw_oth (c := c) (i := i) (n := n) (a := a) h0 h h')
  have HT4 : Hid (∀ i a, tw c i 0 a = decide (a ≤ 1)) := Lib.hid fun _ _ => rfl
  have HB0 : Hid (Below w.heap.size w (w.alloc (.cells (VA (m : Int) c) 43))) := Lib.hid ((Below.refl _ _).alloc (Nat.le_refl _) _)
  clear hc
  obtain ⟨ans, hans⟩ : ∃ x, tw c 0 16 0 = x := ⟨_, rfl⟩
  rw [hans]
  have HANS := Lib.hid hans
  clear hans
  generalize VA (m : Int) c = A at *
  generalize VC c = L at *
  go_enter Try.func55, Try.ntmps55
  go_wp2_with (first | refine wpList_load_mid rfl 41 _ rfl w.heap.size 3 rfl L _ hR hu rfl hi ?_ | fail)
  go_loopw [3, 8] (fun vs vi wr => ∃ i a : Nat, i ≤ 16 ∧ a ≤ i ∧ vi = .int .i64 i ∧ vs = .int .i64 a ∧ tw c i (16 - i) a = ans ∧ wr = w.alloc (.cells A 43)) (fun _ vi _ => 16 - (intOf vi).toNat)
  case atStart => exact ⟨0, 0, by omega, by omega, rfl, rfl, HANS.out, rfl⟩
  case round =>
    obtain ⟨i, a, hi16, hai, rfl, rfl, htw, rfl⟩ := hrel
    have HTW := Lib.hid htw; clear htw
    by_cases hlt : i < 16
    · have hg := HG.out i hlt (w.alloc (.cells A 43))
      obtain ⟨b7, b8⟩ := HCB.out i
      have HX1 := Lib.hid (HT1.out i (16 - i) a (by omega))
      have HX2 := Lib.hid (HT2.out i (16 - i) a (by omega))
      have HX3 := Lib.hid (HT3.out i (16 - i) a (by omega))
      generalize c i = x at *
      by_cases h2 : 2 < x
      · have HF : Hid (ans = false) := Lib.hid (by rw [← HTW.out]; exact HX1.out h2)
        clear HX1 HX2 HX3 HTW
        go_wp2_with (first | (simp only [hg, Result.andThen_ok]) | fail)
        go_ret
        exact ⟨by rw [HF.out]; rfl, HB0.out⟩
      · by_cases h1 : x = 1
        · have HF : Hid (tw c (i + 1) (16 - (i + 1)) (a + 1) = ans) := Lib.hid (by rw [← HTW.out, HX2.out h1, show 16 - (i + 1) = 16 - i - 1 by omega])
          clear HX1 HX2 HX3 HTW
          subst h1
          go_wp2_with (first | (simp only [hg, Result.andThen_ok]) | fail)
          go_roundw
          case rel => exact ⟨i + 1, a + 1, by omega, by omega, by go_num, by go_num, HF.out, by first | rfl | trivial⟩
          case measure => simp [intOf]; omega
        · have HF : Hid (tw c (i + 1) (16 - (i + 1)) a = ans) := Lib.hid (by rw [← HTW.out, HX3.out (by omega) h1, show 16 - (i + 1) = 16 - i - 1 by omega])
          have h1' : (x == 1) = false := by simpa using h1
          clear HX1 HX2 HX3 HTW h1
          go_wp2_with (first | (simp only [hg, Result.andThen_ok]) | fail)
          go_roundw
          case rel => exact ⟨i + 1, a, by omega, by omega, by go_num, rfl, HF.out, by first | rfl | trivial⟩
          case measure => simp [intOf]; omega
    · obtain rfl : i = 16 := by omega
      have HF : Hid (decide (a ≤ 1) = ans) := Lib.hid (by rw [← HTW.out]; exact (HT4.out 16 a).symm)
      have hdd : decide ((a : Int) ≤ 1) = decide (a ≤ 1) := by rw [decide_eq_decide]; omega
      clear HTW
      by_cases ha : a ≤ 1
      · go_wp2
        go_ret
        exact ⟨by rw [← HF.out]; simp [ha], HB0.out⟩
      · go_wp2
        go_ret
        exact ⟨by rw [← HF.out]; simp [ha], HB0.out⟩
end Go.Proofs.Ytnmdcmbcackchaa
