/- CountAdditive and CountAdditivePermuting, of both, by contracts; the walks of their laws. -/
import Derived.Test.YtgndlpdcebmgmabRB
namespace Go.Proofs.Ytgndlpdcebmgmab
open Go.RowKit
/-- A power of a number. -/
def npw (x : Int) : Nat → Int
  | 0 => 1
  | n + 1 => npw x n * x
theorem npw_pp {q : Int} (h : isSz q = true) : ∀ i, npw (pr q) i = ppf q i := by
  intro i
  induction i with
  | zero => rfl
  | succ i ih =>
    show npw (pr q) i * pr q = _
    rw [ih, ppf_succ h]
/-- The product over the first n. -/
def cpr (q : Int) : Nat → Int
  | 0 => 1
  | n + 1 => cpr q n * (q - ppf q n)
set_option maxRecDepth 100000 in
theorem cpr_bd {q : Int} (h : isSz q = true) (i : Nat) (hi : i ≤ plN q) : 0 ≤ cpr q i ∧ cpr q i ≤ 100000 ∧ 1 ≤ npw q i ∧ npw q i ≤ 100000 := by
  have hq := isSz_le q h
  have hc := of_chk1 (f := fun q _ => (List.range (plN q + 1)).all fun i => decide (0 ≤ cpr q i ∧ cpr q i ≤ 100000 ∧ 1 ≤ npw q i ∧ npw q i ≤ 100000)) (by decide +kernel) q 0 h (by omega) (by omega)
  exact of_decide_eq_true (List.all_eq_true.1 hc i (List.mem_range.2 (by omega)))
set_option maxRecDepth 100000 in
set_option maxHeartbeats 4000000 in
/-- spec.adPower. -/
theorem adPower_any (x : Int) (n : Nat) (w : World) (hb : ∀ i, i ≤ n → 0 ≤ npw x i ∧ npw x i ≤ 100000) (hn : n ≤ 1000) :
    Calls Try.prog 81 #[.int .i64 x, .int .i64 n] w fun e w' => e = .returned (.int .i64 (npw x n)) ∧ w = w' := by
  have HB := Lib.hid hb
  have HS : Hid (∀ i, npw x i * x = npw x (i + 1)) := Lib.hid fun _ => rfl
  have h0 : npw x 0 = 1 := rfl
  clear hb
  generalize npw x = F at *
  go_enter Try.func81, Try.ntmps81
  go_wp2_with fail
  go_loopw [1, 5] (fun vk vo wr => ∃ i : Nat, i ≤ n ∧ vk = .int .i64 ((n : Int) - (i : Int)) ∧ vo = .int .i64 (F i) ∧ wr = w) (fun vk _ _ => (intOf vk).toNat)
  case atStart => exact ⟨0, Nat.zero_le _, by simp, by rw [h0], rfl⟩
  case round =>
    obtain ⟨i, hi, rfl, rfl, rfl⟩ := hrel
    by_cases hlt : i < n
    · have b1 := HB.out i hi
      have b2 := HB.out (i + 1) (by omega)
      have s1 := HS.out i
      obtain ⟨y, hy⟩ : ∃ y, F (i + 1) = y := ⟨_, rfl⟩
      rw [hy] at s1 b2
      have HY := Lib.hid hy; clear hy
      generalize F i = z at *
      have h1 : IntKind.i64.wrap y = y := IntWalk.i64_in _ (by omega)
      have hpos : (0 : Int) < (n : Int) - (i : Int) := by omega
      have h2 : IntKind.i64.wrap ((n : Int) - (i : Int) - 1) = (n : Int) - (i : Int) - 1 := IntWalk.i64_in _ (by omega)
      go_wp2
      go_roundw
      case rel => exact ⟨i + 1, by omega, congrArg (Value.int .i64) (by omega), by rw [HY.out], by first | rfl | trivial⟩
      case measure => simp [intOf]; omega
    · obtain rfl : n = i := by omega
      have hz : (n : Int) - (n : Int) = 0 := by omega
      rw [hz]
      go_wp2
      go_ret
      exact ⟨rfl, rfl⟩
theorem spec_CountAdditivePermuting_no (q : Int) (w : World) (h : isSz q = false) :
    Calls Try.prog 38 #[.int .i64 q] w fun e w' => e = .returned (.tuple #[.int .i64 0, .bool false]) ∧ Below w.heap.size w w' := by
  have HS := Lib.hid (fun w => by have := fdSize_any q w; rw [h] at this; exact this)
  clear h
  go_enter Try.func38, Try.ntmps38
  go_wp2_with fail
  refine (HS.out _).mono ?_
  rintro e w1 ⟨rfl, hb1⟩
  go_wp2
  go_ret2
  exact ⟨rfl, hb1⟩
theorem impl_CountAdditivePermuting_no (q : Int) (w : World) (h : isSz q = false) :
    Calls Try.prog 39 #[.int .i64 q] w fun e w' => e = .returned (.tuple #[.int .i64 0, .bool false]) ∧ Below w.heap.size w w' := by
  have HF := Lib.hid (fun w => fieldOf_no q w h)
  clear h
  go_enter Try.func39, Try.ntmps39
  go_wp2_with fail
  refine (HF.out _).mono ?_
  rintro e w1 ⟨rfl, hb1⟩
  have hz_hb1 := hb1.size; (try simp at hz_hb1)
  have HB1 := Lib.hid hb1; clear hb1
  go_wp2_with fail
  go_ret2
  have hb1 := HB1.out
  exact ⟨rfl, by (repeat' (first | (with_reducible assumption) | (with_reducible exact Below.refl _ _) | (with_reducible refine below_drewN ?_ _) | (with_reducible refine Below.drew ?_) | (with_reducible refine Below.alloc ?_ ?_ _) | (with_reducible refine Below.setCell ?_ ?_ _) | (with_reducible refine Below.trans ?_ (Below.mono (by assumption) ?_)) | (with_reducible exact Nat.le_refl _) | (with_reducible assumption) | omega | (simp; omega) | (simp; done)))⟩
set_option maxRecDepth 100000 in
set_option maxHeartbeats 4000000 in
theorem spec_CountAdditivePermuting_yes (q : Int) (w : World) (h : isSz q = true) :
    Calls Try.prog 38 #[.int .i64 q] w fun e w' => e = .returned (.tuple #[.int .i64 (cpr q (plN q)), .bool true]) ∧ Below w.heap.size w w' := by
  have hq := isSz_le q h
  have hkb := plN_bd q h
  have HS := Lib.hid (fun w => by have := fdSize_any q w; rw [h] at this; exact this)
  have HPR := Lib.hid (fun w => fdPrime_any q w h)
  have hpl : pl q = ((plN q : Nat) : Int) := rfl
  have HPB := Lib.hid (ppf_bd h)
  have HA := Lib.hid (fun i w (hi : i < plN q) => by
    have := adPower_any (pr q) i w (fun j hj => by rw [npw_pp h]; have := ppf_bd h j (by omega); omega) (by omega)
    rw [npw_pp h] at this
    exact this)
  have HB := Lib.hid (cpr_bd h)
  have HC : Hid (∀ i, cpr q i * (q - ppf q i) = cpr q (i + 1)) := Lib.hid fun _ => rfl
  have h0 : cpr q 0 = 1 := rfl
  clear h
  generalize cpr q = F at *
  generalize ppf q = G at *
  generalize plN q = k at *
  go_enter Try.func38, Try.ntmps38
  go_wp2_with fail
  refine (HS.out _).mono ?_
  rintro e w1 ⟨rfl, hb1⟩
  have hz1 := hb1.size
  have HB1 := Lib.hid hb1; clear hb1
  go_wp2_with fail
  refine (HPR.out _).mono ?_
  rintro e _ ⟨rfl, rfl⟩
  rw [hpl]
  clear hpl
  go_wp2_with fail
  go_loopw [6, 7] (fun vo vi wr => ∃ i : Nat, i ≤ k ∧ vi = .int .i64 i ∧ vo = .int .i64 (F i) ∧ wr = w1) (fun _ vi _ => k - (intOf vi).toNat)
  case atStart => exact ⟨0, Nat.zero_le _, rfl, by rw [h0], rfl⟩
  case round =>
    obtain ⟨i, hi, rfl, rfl, rfl⟩ := hrel
    by_cases hlt : i < k
    · have b1 := HB.out i hi
      have b2 := HB.out (i + 1) (by omega)
      have b3 := HPB.out i hi
      have s1 := HC.out i
      have HA' := Lib.hid (fun w => HA.out i w hlt)
      obtain ⟨y, hy⟩ : ∃ y, F (i + 1) = y := ⟨_, rfl⟩
      rw [hy] at s1 b2
      have HY := Lib.hid hy; clear hy
      generalize F i = z at *
      generalize G i = g at *
      have h1 : IntKind.i64.wrap y = y := IntWalk.i64_in _ (by omega)
      have h2 : IntKind.i64.wrap (q - g) = q - g := IntWalk.i64_in _ (by omega)
      go_wp2_with fail
      refine (HA'.out _).mono ?_
      rintro e _ ⟨rfl, rfl⟩
      go_wp2
      go_roundw
      case rel => exact ⟨i + 1, by omega, by go_num, by rw [HY.out], by first | rfl | trivial⟩
      case measure => simp [intOf]; omega
    · obtain rfl : k = i := by omega
      go_wp2
      go_ret2
      exact ⟨rfl, HB1.out⟩
set_option maxRecDepth 100000 in
set_option maxHeartbeats 4000000 in
theorem impl_CountAdditivePermuting_yes (q : Int) (w : World) (h : isSz q = true) :
    Calls Try.prog 39 #[.int .i64 q] w fun e w' => e = .returned (.tuple #[.int .i64 (cpr q (plN q)), .bool true]) ∧ Below w.heap.size w w' := by
  have hq := isSz_le q h
  have hkb := plN_bd q h
  have HF := Lib.hid (fun w => fieldOf_yes q w h)
  have HP := Lib.hid (fun w => primePowersE q w h)
  have HPB := Lib.hid (ppf_bd h)
  have HB := Lib.hid (cpr_bd h)
  have HC : Hid (∀ i, cpr q i * (q - ppf q i) = cpr q (i + 1)) := Lib.hid fun _ => rfl
  have h0 : cpr q 0 = 1 := rfl
  clear h
  generalize cpr q = F at *
  generalize ppf q = G at *
  generalize plN q = k at *
  go_enter Try.func39, Try.ntmps39
  go_wp2_with fail
  refine (HF.out _).mono ?_
  rintro e w1 ⟨rfl, hb1⟩
  have hz1 := hb1.size
  have hfb := heap_alloc_new w1 (ffblk q)
  have HB1 : Hid (Below w.heap.size w (w1.alloc (ffblk q))) := Lib.hid (by (repeat' (first | (with_reducible assumption) | (with_reducible exact Below.refl _ _) | (with_reducible refine below_drewN ?_ _) | (with_reducible refine Below.drew ?_) | (with_reducible refine Below.alloc ?_ ?_ _) | (with_reducible refine Below.setCell ?_ ?_ _) | (with_reducible refine Below.trans ?_ (Below.mono (by assumption) ?_)) | (with_reducible exact Nat.le_refl _) | (with_reducible assumption) | omega | (simp; omega) | (simp; done))))
  clear hb1
  go_wp2_with fail
  refine (HP.out _).mono ?_
  rintro e w2 ⟨gP, rfl, hgP, hgPl, hrP, hb2⟩
  have HFB := Lib.hid ((hb2.block _ (by simp)).trans hfb)
  have HCP : Hid (∀ i, i < k → w2.cell? ⟨gP, i, none⟩ = some (.int .i64 (G i))) := Lib.hid fun i hi => by
    have := Row.cell (l := fl G k) (cap := k) (by rw [fl_len]; exact hrP) i (by rw [fl_len]; exact hi)
    rwa [fl_get _ _ _ hi] at this
  have HB2 : Hid (Below w.heap.size w w2) := Lib.hid (HB1.out.trans (hb2.mono HB1.out.size))
  clear hrP hb2 hfb
  obtain ⟨f0, f1, f2, ff, fl0⟩ := cells3' HFB.out
  go_wp2_with fail
  go_loopw [6, 19] (fun vo vi wr => ∃ i : Nat, i ≤ k ∧ vi = .int .i64 i ∧ vo = .int .i64 (F i) ∧ wr = w2) (fun _ vi _ => k - (intOf vi).toNat)
  case atStart => exact ⟨0, Nat.zero_le _, rfl, by rw [h0], rfl⟩
  case round =>
    obtain ⟨i, hi, rfl, rfl, rfl⟩ := hrel
    by_cases hlt : i < k
    · have b1 := HB.out i hi
      have b2 := HB.out (i + 1) (by omega)
      have b3 := HPB.out i hi
      have s1 := HC.out i
      have hcp := HCP.out i hlt
      obtain ⟨y, hy⟩ : ∃ y, F (i + 1) = y := ⟨_, rfl⟩
      rw [hy] at s1 b2
      have HY := Lib.hid hy; clear hy
      generalize F i = z at *
      generalize G i = g at *
      have h1 : IntKind.i64.wrap y = y := IntWalk.i64_in _ (by omega)
      have h2 : IntKind.i64.wrap (q - g) = q - g := IntWalk.i64_in _ (by omega)
      go_wp2
      go_roundw
      case rel => exact ⟨i + 1, by omega, by go_num, by rw [HY.out], by first | rfl | trivial⟩
      case measure => simp [intOf]; omega
    · obtain rfl : k = i := by omega
      go_wp2
      go_ret2
      exact ⟨rfl, HB2.out⟩
theorem key_CountAdditivePermuting (q : Int) : ∃ (r : Int) (o : Bool), (∀ (w : World), Calls Try.prog 38 #[.int .i64 q] w fun e w' => e = .returned (.tuple #[.int .i64 r, .bool o]) ∧ Below w.heap.size w w') ∧
      (∀ (w : World), Calls Try.prog 39 #[.int .i64 q] w fun e w' => e = .returned (.tuple #[.int .i64 r, .bool o]) ∧ Below w.heap.size w w') := by
  cases h : isSz q with
  | false => exact ⟨_, _, fun w => spec_CountAdditivePermuting_no q w h, fun w => impl_CountAdditivePermuting_no q w h⟩
  | true => exact ⟨_, _, fun w => spec_CountAdditivePermuting_yes q w h, fun w => impl_CountAdditivePermuting_yes q w h⟩
set_option maxRecDepth 100000 in
set_option maxHeartbeats 4000000 in
/-- laws.FnExactCountAdditivePermuting. -/
theorem walk_FnExactCountAdditivePermuting (q : Int) (w : World) (_h_q : (Lit.int .i64 q).wf = true) :
    Calls Try.prog 12 #[.int .i64 q] w fun e w' => e = .returned (.bool true) ∧ Below w.heap.size w w' := by
  clear _h_q
  obtain ⟨r, o, k1, k2⟩ := key_CountAdditivePermuting q
  have K1 := Lib.hid k1; clear k1
  have K2 := Lib.hid k2; clear k2
  have HB0 : Hid (Below w.heap.size w w) := Lib.hid (Below.refl _ _)
  go_enter Try.func12, Try.ntmps12
  go_wp2_with fail
  refine (K1.out _ ).mono ?_
  rintro e w1 ⟨rfl, hbw1⟩
  have hzw1 : w.heap.size ≤ w1.heap.size := hbw1.size
  have HBw1 : Hid (Below w.heap.size w w1) := Lib.hid (HB0.out.trans (hbw1.mono HB0.out.size))
  have hww1 := HBw1.out.size
  clear hbw1 HB0
  go_wp2_with fail
  refine (K2.out _ ).mono ?_
  rintro e w2 ⟨rfl, hbw2⟩
  have hzw2 : w1.heap.size ≤ w2.heap.size := hbw2.size
  have HBw2 : Hid (Below w.heap.size w w2) := Lib.hid (HBw1.out.trans (hbw2.mono HBw1.out.size))
  have hww2 := HBw2.out.size
  clear hbw2 HBw1
  go_wp2
  go_ret
  exact ⟨rfl, HBw2.out⟩
end Go.Proofs.Ytgndlpdcebmgmab
