/- All complete tables, of both: CountComplete, CompleteWith, RankComplete, by contracts; the walks of their laws. -/
import Derived.Test.YtapglncgicfjnabGreatVJ
import Derived.Test.YtapglncgicfjnabGreatKI
import Derived.Deep.RegionHeld3
namespace Go.Proofs.YtapglncgicfjnabGreat
open Go.RowKit
/-- A size at which all complete tables are listed. -/
def few (q : Int) : Bool := isSz q && decide (q ≤ 8)
theorem few_nat {q : Int} (h : few q = true) : ∃ m : Nat, q = (m : Int) ∧ isSz (m : Int) = true ∧ m ≤ 8 := by
  simp only [few, Bool.and_eq_true, decide_eq_true_eq] at h
  have hq := isSz_le q h.1
  obtain ⟨m, rfl⟩ := Int.eq_ofNat_of_zero_le (show 0 ≤ q by omega)
  exact ⟨m, rfl, h.1, by omega⟩
def lvlOK (m : Nat) : Bool := (List.range (m - 1)).all fun k => decide (0 < (lvl m k).length)
theorem lvl_pos {m k : Nat} (h : isSz (m : Int) = true) (h8 : m ≤ 8) (hk : k < m - 1) : 0 < (lvl m k).length := by
  have hall : lvlOK m = true := by
    have hq := isSz_le (m : Int) h
    have hc : m = 2 ∨ m = 3 ∨ m = 4 ∨ m = 5 ∨ m = 6 ∨ m = 7 ∨ m = 8 := by omega
    rcases hc with rfl | rfl | rfl | rfl | rfl | rfl | rfl
    · decide +kernel
    · decide +kernel
    · decide +kernel
    · decide +kernel
    · exact absurd h (by decide)
    · decide +kernel
    · decide +kernel
  have := List.all_eq_true.1 hall k (List.mem_range.2 hk)
  simpa using this
theorem lvl_flat (m k : Nat) : catT (fun i => nx m ((lvl m k).getD i []) m) (lvl m k).length = lvl m (k + 1) := by
  rw [catT_flat (fun t => nx m t m) (lvl m k) _ (Nat.le_refl _), List.take_length]
  rfl
theorem lvl_few {m k : Nat} (h8 : m ≤ 8) (hk : k ≤ 8) : (lvl m k).length ≤ 16777216 := Nat.le_trans (lvl_len m k) (pow_few8 h8 hk)
theorem getD_mem {T : List (List Int)} {i : Nat} (hi : i < T.length) : T.getD i [] ∈ T := by
  rw [show T.getD i [] = T[i] by simp [List.getD, hi]]
  exact List.getElem_mem hi
set_option maxRecDepth 100000 in
set_option maxHeartbeats 8000000 in
/-- impl.field.completeTables. -/
theorem completeTablesE (m : Nat) (w : World) (h : isSz (m : Int) = true) (h8 : m ≤ 8) :
    Calls Tryz.prog 197 #[fdE (m : Int)] w fun e w' => ∃ v X, e = .returned v ∧ TL w' w.heap.size m v (cmT m) X ∧ Below w.heap.size w w' := by
  have hq := isSz_le (m : Int) h
  have HZ := Lib.hid (fun w => zerosE (m : Int) 1 w h (by omega))
  have HM : Hid (∀ k, k < m - 1 → ∀ B v X w', TL w' B m v (lvl m k) X → Calls Tryz.prog 220 #[v, .func (.func 221) #[fdE (m : Int)] #[]] w' fun e w'' => ∃ v' Z, e = .returned v' ∧ T3 w'' w'.heap.size m v' (lvl m k).length (lvl m k).length (fun i => nx m ((lvl m k).getD i []) m) Z ∧ Below w'.heap.size w' w'') := Lib.hid fun k hk B v X w' hT =>
    mapped_ct m B v (lvl m k) X w' h hT (lvl_pos h h8 hk) (lvl_few h8 (by omega)) fun i hi => by
      obtain ⟨h1, h2⟩ := lvl_mem (by omega) k _ (getD_mem hi)
      exact ⟨h1, by omega⟩
  have HC : Hid (∀ k, k < m - 1 → ∀ B v Z w', T3 w' B m v (lvl m k).length (lvl m k).length (fun i => nx m ((lvl m k).getD i []) m) Z → Calls Tryz.prog 219 #[v] w' fun e w'' => ∃ v' X, e = .returned v' ∧ TL w'' w'.heap.size m v' (lvl m (k + 1)) X ∧ Below w'.heap.size w' w'') := Lib.hid fun k hk B v Z w' hT => by
    have := concatT m (lvl m k).length B v _ Z w' hT (lvl_pos h h8 hk) (lvl_few h8 (by omega)) (by rw [lvl_flat]; exact lvl_few h8 (by omega))
    rw [lvl_flat] at this
    exact this
  have H0 : Hid (lvl m 0 = [[0]]) := Lib.hid rfl
  have HE1 : Hid (cmT m = lvl m (m - 1)) := Lib.hid rfl
  rw [HE1.out]
  clear h
  obtain ⟨n, hn⟩ : ∃ n, n = m - 1 := ⟨_, rfl⟩
  rw [← hn] at HM HC ⊢
  have hnm : (m : Int) - 1 = (n : Int) := by omega
  have hwr : IntKind.i64.wrap ((m : Int) - 1) = (n : Int) := by rw [hnm]; exact IntWalk.i64_in _ (by omega)
  have hn7 : n ≤ 7 := by omega
  clear hn
  generalize lvl m = V at *
  have HF : Hid (∀ w', Below (w.heap.size + 1) (w.alloc (ffblk (m : Int))) w' → w.heap.size < w'.heap.size ∧ w'.cell? ⟨w.heap.size, 0, none⟩ = some (.int .i64 m) ∧ w'.cell? ⟨w.heap.size, 1, none⟩ = some (.int .i64 (pr m)) ∧ w'.cell? ⟨w.heap.size, 2, none⟩ = some (.int .i64 (pl m))) := Lib.hid fun w' hb => by
    obtain ⟨x0, x1, x2, _⟩ := cells3' ((hb.block w.heap.size (by omega)).trans (heap_alloc_new w _))
    have := hb.size
    simp at this
    exact ⟨by omega, x0, x1, x2⟩
  go_enter Tryz.func197, Tryz.ntmps197
  go_wp2_with fail
  refine (HZ.out _).mono ?_
  rintro e w1 ⟨g1, rfl, hg1, hk1, he1, hb1⟩
  simp at hg1
  have hz1 := hb1.size
  simp at hz1
  have hb1' : Below (w.heap.size + 1) (w.alloc (ffblk (m : Int))) w1 := hb1.mono (by simp)
  have HT1 : Hid (TL (w1.alloc (.cells #[.slice (some ⟨g1, 0, none⟩) 1 1] 65)) (w.heap.size + 1) m (.slice (some ⟨w1.heap.size, 0, none⟩) 1 1) (V 0) (fun _ => .slice (some ⟨g1, 0, none⟩) 1 1)) := Lib.hid (by
    rw [H0.out]
    refine TL.one ?_ (by omega)
    obtain ⟨cur, hh, hsz⟩ := hk1
    exact ⟨g1, 1, cur, rfl, hh, fun j hj => by
      obtain rfl : j = 0 := by simp at hj; omega
      exact he1 0 (by omega)⟩)
  have HB1 : Hid (Below (w.heap.size + 1) (w.alloc (ffblk (m : Int))) (w1.alloc (.cells #[.slice (some ⟨g1, 0, none⟩) 1 1] 65))) := Lib.hid (hb1'.alloc (by omega) _)
  obtain ⟨hl1, f0, f1, f2⟩ := HF.out _ HB1.out
  clear hb1 hb1' hk1 he1
  go_wp2_with fail
  go_loopw [3, 10] (fun vo vi wr => ∃ (k : Nat) (X : Nat → Value) (ov : Value), ov = vo ∧ k ≤ n ∧ vi = .int .i64 k ∧ TL wr (w.heap.size + 1) m ov (V k) X ∧ Below (w.heap.size + 1) (w.alloc (ffblk (m : Int))) wr) (fun _ vi _ => n - (intOf vi).toNat)
  case atStart => exact ⟨0, _, _, rfl, Nat.zero_le _, rfl, HT1.out, HB1.out⟩
  case round =>
    obtain ⟨k, X, ov, rfl, hk, rfl, hr, hbw⟩ := hrel
    have HR := Lib.hid hr; clear hr
    have HBW := Lib.hid hbw
    obtain ⟨hl2, f0, f1, f2⟩ := HF.out _ hbw
    have hzr := hbw.size
    simp at hzr
    clear hbw
    by_cases hlt : k < n
    · have HMk := Lib.hid (HM.out k hlt _ _ _ _ HR.out)
      have HCk := Lib.hid (HC.out k hlt)
      generalize (fun i => nx m ((V k).getD i []) m) = F at *
      go_wp2_with fail
      refine HMk.out.mono ?_
      rintro e w2 ⟨v2, Z, rfl, hr2, hb2⟩
      have HR2 := Lib.hid hr2
      have hz2 := hb2.size
      have HB2 : Hid (Below (w.heap.size + 1) (w.alloc (ffblk (m : Int))) w2) := Lib.hid (HBW.out.trans (hb2.mono (by omega)))
      clear hr2 hb2
      go_wp2_with fail
      refine (HCk.out _ _ _ _ HR2.out).mono ?_
      rintro e w3 ⟨v3, X3, rfl, hr3, hb3⟩
      have HR3 := Lib.hid (hr3.mono (B' := w.heap.size + 1) (by omega))
      have HB3 : Hid (Below (w.heap.size + 1) (w.alloc (ffblk (m : Int))) w3) := Lib.hid (HB2.out.trans (hb3.mono (by omega)))
      clear hr3 hb3
      go_wp2
      go_roundw
      case rel => exact ⟨k + 1, _, _, rfl, by omega, by go_num, HR3.out, HB3.out⟩
      case measure => (simp [intOf]; try omega)
    · obtain rfl : k = n := by omega
      go_wp2
      go_ret
      exact ⟨_, X, rfl, HR.out.mono (by omega), by have hb := HBW.out; (repeat' (first | (with_reducible assumption) | (with_reducible exact Below.refl _ _) | (with_reducible refine below_drewN ?_ _) | (with_reducible refine Below.drew ?_) | (with_reducible refine Below.alloc ?_ ?_ _) | (with_reducible refine Below.setCell ?_ ?_ _) | (with_reducible refine Below.trans ?_ (Below.mono (by assumption) ?_)) | (with_reducible exact Nat.le_refl _) | (with_reducible assumption) | omega | (simp; omega) | (simp; done)))⟩
theorem allTables_no1 (q : Int) (w : World) (h : isSz q = false) :
    Calls Tryz.prog 133 #[.int .i64 q] w fun e w' => e = .returned (.tuple #[.slice none 0 0, .bool false]) ∧ Below w.heap.size w w' := by
  have HO := Lib.hid (fun w => fieldOf_no q w h)
  clear h
  go_enter Tryz.func133, Tryz.ntmps133
  go_wp2_with fail
  refine (HO.out _).mono ?_
  rintro e w1 ⟨rfl, hb1⟩
  have hz_hb1 := hb1.size; (try simp at hz_hb1)
  go_wp2_with fail
  go_ret2
  exact ⟨rfl, by (repeat' (first | (with_reducible assumption) | (with_reducible exact Below.refl _ _) | (with_reducible refine below_drewN ?_ _) | (with_reducible refine Below.drew ?_) | (with_reducible refine Below.alloc ?_ ?_ _) | (with_reducible refine Below.setCell ?_ ?_ _) | (with_reducible refine Below.trans ?_ (Below.mono (by assumption) ?_)) | (with_reducible exact Nat.le_refl _) | (with_reducible assumption) | omega | (simp; omega) | (simp; done)))⟩
theorem allTables_no2 (q : Int) (w : World) (h : isSz q = true) (h8 : 8 < q) :
    Calls Tryz.prog 133 #[.int .i64 q] w fun e w' => e = .returned (.tuple #[.slice none 0 0, .bool false]) ∧ Below w.heap.size w w' := by
  have HO := Lib.hid (fun w => fieldOf_yes q w h)
  clear h
  go_enter Tryz.func133, Tryz.ntmps133
  go_wp2_with fail
  refine (HO.out _).mono ?_
  rintro e w1 ⟨rfl, hb1⟩
  have hz_hb1 := hb1.size; (try simp at hz_hb1)
  go_wp2_with fail
  go_ret2
  exact ⟨rfl, by (repeat' (first | (with_reducible assumption) | (with_reducible exact Below.refl _ _) | (with_reducible refine below_drewN ?_ _) | (with_reducible refine Below.drew ?_) | (with_reducible refine Below.alloc ?_ ?_ _) | (with_reducible refine Below.setCell ?_ ?_ _) | (with_reducible refine Below.trans ?_ (Below.mono (by assumption) ?_)) | (with_reducible exact Nat.le_refl _) | (with_reducible assumption) | omega | (simp; omega) | (simp; done)))⟩
theorem allTables_no (q : Int) (w : World) (h : few q = false) :
    Calls Tryz.prog 133 #[.int .i64 q] w fun e w' => e = .returned (.tuple #[.slice none 0 0, .bool false]) ∧ Below w.heap.size w w' := by
  cases hs : isSz q with
  | false => exact allTables_no1 q w hs
  | true =>
    unfold few at h
    rw [hs, Bool.true_and, decide_eq_false_iff_not] at h
    exact allTables_no2 q w hs (by omega)
theorem allTables_yes (m : Nat) (w : World) (h : isSz (m : Int) = true) (h8 : m ≤ 8) :
    Calls Tryz.prog 133 #[.int .i64 m] w fun e w' => ∃ v X, e = .returned (.tuple #[v, .bool true]) ∧ TL w' w.heap.size m v (cmT m) X ∧ Below w.heap.size w w' := by
  have HO := Lib.hid (fun w => fieldOf_yes (m : Int) w h)
  have HC := Lib.hid (fun w => completeTablesE m w h h8)
  have h9 : ¬ (8 : Int) < (m : Int) := by omega
  clear h
  generalize cmT m = T at *
  go_enter Tryz.func133, Tryz.ntmps133
  go_wp2_with fail
  refine (HO.out _).mono ?_
  rintro e w1 ⟨rfl, hb1⟩
  have hz_hb1 := hb1.size; (try simp at hz_hb1)
  have HB1 := Lib.hid hb1; clear hb1
  go_wp2_with fail
  refine (HC.out _).mono ?_
  rintro e w2 ⟨v2, X, rfl, hr2, hb2⟩
  have HR2 := Lib.hid hr2
  have HB2 : Hid (Below w.heap.size w w2) := Lib.hid (by have hb1 := HB1.out; (repeat' (first | (with_reducible assumption) | (with_reducible exact Below.refl _ _) | (with_reducible refine below_drewN ?_ _) | (with_reducible refine Below.drew ?_) | (with_reducible refine Below.alloc ?_ ?_ _) | (with_reducible refine Below.setCell ?_ ?_ _) | (with_reducible refine Below.trans ?_ (Below.mono (by assumption) ?_)) | (with_reducible exact Nat.le_refl _) | (with_reducible assumption) | omega | (simp; omega) | (simp; done))))
  clear hr2 hb2
  go_wp2
  go_ret2
  exact ⟨_, X, rfl, HR2.out.mono (by simp; omega), HB2.out⟩
theorem cmFew_any (q : Int) (w : World) :
    Calls Tryz.prog 135 #[.int .i64 q] w fun e w' => e = .returned (.bool (few q)) ∧ Below w.heap.size w w' := by
  have HS := Lib.hid (fun w => fdSize_any q w)
  cases hs : isSz q with
  | false =>
    have e0 : few q = false := by unfold few; rw [hs]; rfl
    rw [hs] at HS
    rw [e0]
    clear hs e0
    go_enter Tryz.func135, Tryz.ntmps135
    go_wp2_with fail
    refine (HS.out _).mono ?_
    rintro e w1 ⟨rfl, hb1⟩
    go_wp2
    go_ret
    exact ⟨rfl, hb1⟩
  | true =>
    have e0 : few q = decide (q ≤ 8) := by unfold few; rw [hs]; rfl
    rw [hs] at HS
    rw [e0]
    clear hs e0
    go_enter Tryz.func135, Tryz.ntmps135
    go_wp2_with fail
    refine (HS.out _).mono ?_
    rintro e w1 ⟨rfl, hb1⟩
    go_wp2
    go_ret
    exact ⟨rfl, hb1⟩
/-- spec.cmAll of 0 alone. -/
theorem cmAll_0 (m : Nat) (w : World) (h : isSz (m : Int) = true) (h8 : m ≤ 8) :
    Calls Tryz.prog 136 #[.int .i64 m, .slice (some ⟨w.heap.size, 0, none⟩) 1 1] (w.alloc (.cells #[.int .i64 0] 3)) fun e w' => ∃ v' X, e = .returned v' ∧ RL w' w.heap.size v' (cmT m) X ∧ Below w.heap.size w w' := by
  have hq := isSz_le (m : Int) h
  have hr : Row (w.alloc (.cells #[.int .i64 0] 3)) w.heap.size (.slice (some ⟨w.heap.size, 0, none⟩) 1 1) [0] := World.ownsRow_lit (base := w.heap.size) (e := 3) (size := 1) w #[.int .i64 0] 1 (Nat.le_refl _) (by unfold maxLen; omega) rfl
  refine (cmAll_any m h h8 (m - 1) [0] _ _ (bgn0 (by omega)) (by simp; omega) hr.sl).mono ?_
  rintro e w' ⟨v', X, rfl, hT, hb⟩
  rw [cmT_A] at hT
  exact ⟨v', X, rfl, hT.mono (by simp), by (repeat' (first | (with_reducible assumption) | (with_reducible exact Below.refl _ _) | (with_reducible refine below_drewN ?_ _) | (with_reducible refine Below.drew ?_) | (with_reducible refine Below.alloc ?_ ?_ _) | (with_reducible refine Below.setCell ?_ ?_ _) | (with_reducible refine Below.trans ?_ (Below.mono (by assumption) ?_)) | (with_reducible exact Nat.le_refl _) | (with_reducible assumption) | omega | (simp; omega) | (simp; done)))⟩
theorem spec_CountComplete_no (q : Int) (w : World) (h : few q = false) :
    Calls Tryz.prog 55 #[.int .i64 q] w fun e w' => e = .returned (.tuple #[.int .i64 0, .bool false]) ∧ Below w.heap.size w w' := by
  have HO := Lib.hid (fun w => cmFew_any q w)
  rw [h] at HO
  clear h
  go_enter Tryz.func55, Tryz.ntmps55
  go_wp2_with fail
  refine (HO.out _).mono ?_
  rintro e w1 ⟨rfl, hb1⟩
  have hz_hb1 := hb1.size; (try simp at hz_hb1)
  go_wp2_with fail
  go_ret2
  exact ⟨rfl, by (repeat' (first | (with_reducible assumption) | (with_reducible exact Below.refl _ _) | (with_reducible refine below_drewN ?_ _) | (with_reducible refine Below.drew ?_) | (with_reducible refine Below.alloc ?_ ?_ _) | (with_reducible refine Below.setCell ?_ ?_ _) | (with_reducible refine Below.trans ?_ (Below.mono (by assumption) ?_)) | (with_reducible exact Nat.le_refl _) | (with_reducible assumption) | omega | (simp; omega) | (simp; done)))⟩
theorem impl_CountComplete_no (q : Int) (w : World) (h : few q = false) :
    Calls Tryz.prog 54 #[.int .i64 q] w fun e w' => e = .returned (.tuple #[.int .i64 0, .bool false]) ∧ Below w.heap.size w w' := by
  have HO := Lib.hid (fun w => allTables_no q w h)
  clear h
  go_enter Tryz.func54, Tryz.ntmps54
  go_wp2_with fail
  refine (HO.out _).mono ?_
  rintro e w1 ⟨rfl, hb1⟩
  have hz_hb1 := hb1.size; (try simp at hz_hb1)
  go_wp2_with fail
  go_ret2
  exact ⟨rfl, by (repeat' (first | (with_reducible assumption) | (with_reducible exact Below.refl _ _) | (with_reducible refine below_drewN ?_ _) | (with_reducible refine Below.drew ?_) | (with_reducible refine Below.alloc ?_ ?_ _) | (with_reducible refine Below.setCell ?_ ?_ _) | (with_reducible refine Below.trans ?_ (Below.mono (by assumption) ?_)) | (with_reducible exact Nat.le_refl _) | (with_reducible assumption) | omega | (simp; omega) | (simp; done)))⟩
theorem spec_CountComplete_yes (m : Nat) (w : World) (h : isSz (m : Int) = true) (h8 : m ≤ 8) :
    Calls Tryz.prog 55 #[.int .i64 m] w fun e w' => e = .returned (.tuple #[.int .i64 (cmT m).length, .bool true]) ∧ Below w.heap.size w w' := by
  have HF := Lib.hid (fun w => cmFew_any (m : Int) w)
  have hf : few (m : Int) = true := by unfold few; rw [h, decide_eq_true (by omega)]; rfl
  rw [hf] at HF
  have HA := Lib.hid (fun w => cmAll_0 m w h h8)
  clear h hf
  generalize cmT m = T at *
  obtain ⟨n, hn⟩ : ∃ n, T.length = n := ⟨_, rfl⟩
  rw [hn]
  have HNN := Lib.hid hn; clear hn
  go_enter Tryz.func55, Tryz.ntmps55
  go_wp2_with fail
  refine (HF.out _).mono ?_
  rintro e w1 ⟨rfl, hb1⟩
  have HB1 := Lib.hid hb1; clear hb1
  go_wp2_with fail
  refine (HA.out _).mono ?_
  rintro e w2 ⟨v2, X, rfl, hr2, hb2⟩
  have HB2 : Hid (Below w.heap.size w w2) := Lib.hid (HB1.out.trans (hb2.mono HB1.out.size))
  obtain ⟨a2, c2, rfl⟩ := hr2.slc
  rw [HNN.out]
  clear hr2 hb2
  go_wp2
  go_ret2
  exact ⟨rfl, HB2.out⟩
theorem impl_CountComplete_yes (m : Nat) (w : World) (h : isSz (m : Int) = true) (h8 : m ≤ 8) :
    Calls Tryz.prog 54 #[.int .i64 m] w fun e w' => e = .returned (.tuple #[.int .i64 (cmT m).length, .bool true]) ∧ Below w.heap.size w w' := by
  have HA := Lib.hid (fun w => allTables_yes m w h h8)
  clear h
  generalize cmT m = T at *
  obtain ⟨n, hn⟩ : ∃ n, T.length = n := ⟨_, rfl⟩
  rw [hn]
  have HNN := Lib.hid hn; clear hn
  go_enter Tryz.func54, Tryz.ntmps54
  go_wp2_with fail
  refine (HA.out _).mono ?_
  rintro e w2 ⟨v2, X, rfl, hr2, hb2⟩
  have HB2 := Lib.hid hb2
  obtain ⟨a2, c2, rfl⟩ := hr2.slc
  rw [HNN.out]
  clear hr2 hb2
  go_wp2
  go_ret2
  exact ⟨rfl, HB2.out⟩
theorem key_CountComplete (q : Int) : ∃ (r : Int) (o : Bool), (∀ (w : World), Calls Tryz.prog 55 #[.int .i64 q] w fun e w' => e = .returned (.tuple #[.int .i64 r, .bool o]) ∧ Below w.heap.size w w') ∧
      (∀ (w : World), Calls Tryz.prog 54 #[.int .i64 q] w fun e w' => e = .returned (.tuple #[.int .i64 r, .bool o]) ∧ Below w.heap.size w w') := by
  cases h : few q with
  | false => exact ⟨0, false, fun w => spec_CountComplete_no q w h, fun w => impl_CountComplete_no q w h⟩
  | true =>
    obtain ⟨m, rfl, hs, h8⟩ := few_nat h
    exact ⟨_, true, fun w => spec_CountComplete_yes m w hs h8, fun w => impl_CountComplete_yes m w hs h8⟩
theorem l1In_yes (x a b : Int) (w : World) (h1 : a ≤ x) (h2 : x ≤ b) :
    Calls Tryz.prog 137 #[.int .i64 x, .int .i64 a, .int .i64 b] w fun e w' => e = .returned (.bool true) ∧ w = w' := by
  go_enter Tryz.func137, Tryz.ntmps137
  go_wp2
  go_ret
  exact ⟨rfl, rfl⟩
theorem l1In_no1 (x a b : Int) (w : World) (h1 : x < a) :
    Calls Tryz.prog 137 #[.int .i64 x, .int .i64 a, .int .i64 b] w fun e w' => e = .returned (.bool false) ∧ w = w' := by
  have h2 : ¬ a ≤ x := by omega
  go_enter Tryz.func137, Tryz.ntmps137
  go_wp2
  go_ret
  exact ⟨rfl, rfl⟩
theorem l1In_no2 (x a b : Int) (w : World) (h1 : a ≤ x) (h2 : b < x) :
    Calls Tryz.prog 137 #[.int .i64 x, .int .i64 a, .int .i64 b] w fun e w' => e = .returned (.bool false) ∧ w = w' := by
  have h3 : ¬ x ≤ b := by omega
  go_enter Tryz.func137, Tryz.ntmps137
  go_wp2
  go_ret
  exact ⟨rfl, rfl⟩
theorem fl_selfK (l : List Int) : fl (fun i => l.getD i 0) l.length = l := by
  refine List.ext_getElem (by rw [fl_len]) fun i h1 h2 => ?_
  simp [fl, List.getD, List.getElem?_eq_getElem h2]
/-- The numbers of a list of elements. -/
theorem numbersH (m : Nat) (x : Value) (l : List Int) (w : World) (h : isSz (m : Int) = true) (hx : HE w m x l) (hb : Bgn m l) (hl : l.length ≤ 16) :
    Calls Tryz.prog 134 #[x, .func (.func 102) #[] #[]] w fun e w' => ∃ v', e = .returned v' ∧ Row w' w.heap.size v' l ∧ Below w.heap.size w w' := by
  obtain ⟨g, cap, cur, rfl, hc, he⟩ := hx
  have := mappedEI (m : Int) _ (fun i => l.getD i 0) l.length w h ⟨g, cap, rfl, (Array.getElem?_eq_some_iff.1 hc).1, he⟩ (fun i _ => hb.els i) (by omega)
  rw [fl_selfK] at this
  exact this
theorem spec_CompleteWith_no (q : Int) (r : Int) (w : World) (h : few q = false) :
    Calls Tryz.prog 53 #[.int .i64 q, .int .i64 r] w fun e w' => e = .returned (.tuple #[.slice none 0 0, .bool false]) ∧ Below w.heap.size w w' := by
  have HO := Lib.hid (fun w => cmFew_any q w)
  rw [h] at HO
  clear h
  go_enter Tryz.func53, Tryz.ntmps53
  go_wp2_with fail
  refine (HO.out _).mono ?_
  rintro e w1 ⟨rfl, hb1⟩
  have hz_hb1 := hb1.size; (try simp at hz_hb1)
  go_wp2_with fail
  go_ret2
  exact ⟨rfl, by (repeat' (first | (with_reducible assumption) | (with_reducible exact Below.refl _ _) | (with_reducible refine below_drewN ?_ _) | (with_reducible refine Below.drew ?_) | (with_reducible refine Below.alloc ?_ ?_ _) | (with_reducible refine Below.setCell ?_ ?_ _) | (with_reducible refine Below.trans ?_ (Below.mono (by assumption) ?_)) | (with_reducible exact Nat.le_refl _) | (with_reducible assumption) | omega | (simp; omega) | (simp; done)))⟩
theorem impl_CompleteWith_no (q : Int) (r : Int) (w : World) (h : few q = false) :
    Calls Tryz.prog 52 #[.int .i64 q, .int .i64 r] w fun e w' => e = .returned (.tuple #[.slice none 0 0, .bool false]) ∧ Below w.heap.size w w' := by
  have HO := Lib.hid (fun w => allTables_no q w h)
  clear h
  go_enter Tryz.func52, Tryz.ntmps52
  go_wp2_with fail
  refine (HO.out _).mono ?_
  rintro e w1 ⟨rfl, hb1⟩
  have hz_hb1 := hb1.size; (try simp at hz_hb1)
  go_wp2_with fail
  go_ret2
  exact ⟨rfl, by (repeat' (first | (with_reducible assumption) | (with_reducible exact Below.refl _ _) | (with_reducible refine below_drewN ?_ _) | (with_reducible refine Below.drew ?_) | (with_reducible refine Below.alloc ?_ ?_ _) | (with_reducible refine Below.setCell ?_ ?_ _) | (with_reducible refine Below.trans ?_ (Below.mono (by assumption) ?_)) | (with_reducible exact Nat.le_refl _) | (with_reducible assumption) | omega | (simp; omega) | (simp; done)))⟩
theorem spec_CompleteWith_no1 (m : Nat) (r : Int) (w : World) (h : isSz (m : Int) = true) (h8 : m ≤ 8) (hr : r < 0) :
    Calls Tryz.prog 53 #[.int .i64 m, .int .i64 r] w fun e w' => e = .returned (.tuple #[.slice none 0 0, .bool false]) ∧ Below w.heap.size w w' := by
  have HF := Lib.hid (fun w => cmFew_any (m : Int) w)
  have hf : few (m : Int) = true := by unfold few; rw [h, decide_eq_true (by omega)]; rfl
  rw [hf] at HF
  have HA := Lib.hid (fun w => cmAll_0 m w h h8)
  have hln : (cmT m).length ≤ 16777216 := lvl_few h8 (by omega)
  clear h hf
  generalize cmT m = T at *
  obtain ⟨n, hn⟩ : ∃ n, T.length = n := ⟨_, rfl⟩
  rw [hn] at hln
  have HNN := Lib.hid hn; clear hn
  have HI := Lib.hid (fun b w => l1In_no1 r 0 b w hr)
  have hwr : IntKind.i64.wrap ((n : Int) - 1) = (n : Int) - 1 := IntWalk.i64_in _ (by omega)
  go_enter Tryz.func53, Tryz.ntmps53
  go_wp2_with fail
  refine (HF.out _).mono ?_
  rintro e w1 ⟨rfl, hb1⟩
  have HB1 := Lib.hid hb1; clear hb1
  go_wp2_with fail
  refine (HA.out _).mono ?_
  rintro e w2 ⟨v2, X, rfl, hr2, hb2⟩
  have HB2 : Hid (Below w.heap.size w w2) := Lib.hid (HB1.out.trans (hb2.mono HB1.out.size))
  obtain ⟨a2, c2, rfl⟩ := hr2.slc
  rw [HNN.out]
  clear hr2 hb2
  go_wp2_with fail
  refine (HI.out _ _).mono ?_
  rintro e w3 ⟨rfl, rfl⟩
  go_wp2
  go_ret2
  exact ⟨rfl, HB2.out⟩
theorem impl_CompleteWith_no1 (m : Nat) (r : Int) (w : World) (h : isSz (m : Int) = true) (h8 : m ≤ 8) (hr : r < 0) :
    Calls Tryz.prog 52 #[.int .i64 m, .int .i64 r] w fun e w' => e = .returned (.tuple #[.slice none 0 0, .bool false]) ∧ Below w.heap.size w w' := by
  have HA := Lib.hid (fun w => allTables_yes m w h h8)
  clear h
  generalize cmT m = T at *
  obtain ⟨n, hn⟩ : ∃ n, T.length = n := ⟨_, rfl⟩
  have HNN := Lib.hid hn; clear hn
  go_enter Tryz.func52, Tryz.ntmps52
  go_wp2_with fail
  refine (HA.out _).mono ?_
  rintro e w2 ⟨v2, X, rfl, hr2, hb2⟩
  have HB2 := Lib.hid hb2
  obtain ⟨a2, c2, rfl⟩ := hr2.slc
  rw [HNN.out]
  clear hr2 hb2
  go_wp2
  go_ret2
  exact ⟨rfl, HB2.out⟩
theorem spec_CompleteWith_no0 (m : Nat) (r : Int) (w : World) (h : isSz (m : Int) = true) (h8 : m ≤ 8) (h0 : 0 ≤ r) (hr : ((cmT m).length : Int) ≤ r) :
    Calls Tryz.prog 53 #[.int .i64 m, .int .i64 r] w fun e w' => e = .returned (.tuple #[.slice none 0 0, .bool false]) ∧ Below w.heap.size w w' := by
  have HF := Lib.hid (fun w => cmFew_any (m : Int) w)
  have hf : few (m : Int) = true := by unfold few; rw [h, decide_eq_true (by omega)]; rfl
  rw [hf] at HF
  have HA := Lib.hid (fun w => cmAll_0 m w h h8)
  have hln : (cmT m).length ≤ 16777216 := lvl_few h8 (by omega)
  clear h hf
  generalize cmT m = T at *
  obtain ⟨n, hn⟩ : ∃ n, T.length = n := ⟨_, rfl⟩
  rw [hn] at hln hr
  have HNN := Lib.hid hn; clear hn
  have HI := Lib.hid (fun w => l1In_no2 r 0 ((n : Int) - 1) w h0 (by omega))
  have hwr : IntKind.i64.wrap ((n : Int) - 1) = (n : Int) - 1 := IntWalk.i64_in _ (by omega)
  go_enter Tryz.func53, Tryz.ntmps53
  go_wp2_with fail
  refine (HF.out _).mono ?_
  rintro e w1 ⟨rfl, hb1⟩
  have HB1 := Lib.hid hb1; clear hb1
  go_wp2_with fail
  refine (HA.out _).mono ?_
  rintro e w2 ⟨v2, X, rfl, hr2, hb2⟩
  have HB2 : Hid (Below w.heap.size w w2) := Lib.hid (HB1.out.trans (hb2.mono HB1.out.size))
  obtain ⟨a2, c2, rfl⟩ := hr2.slc
  rw [HNN.out]
  clear hr2 hb2
  go_wp2_with fail
  refine (HI.out _).mono ?_
  rintro e w3 ⟨rfl, rfl⟩
  go_wp2
  go_ret2
  exact ⟨rfl, HB2.out⟩
theorem impl_CompleteWith_no0 (m : Nat) (r : Int) (w : World) (h : isSz (m : Int) = true) (h8 : m ≤ 8) (h0 : 0 ≤ r) (hr : ((cmT m).length : Int) ≤ r) :
    Calls Tryz.prog 52 #[.int .i64 m, .int .i64 r] w fun e w' => e = .returned (.tuple #[.slice none 0 0, .bool false]) ∧ Below w.heap.size w w' := by
  have HA := Lib.hid (fun w => allTables_yes m w h h8)
  clear h
  generalize cmT m = T at *
  obtain ⟨n, hn⟩ : ∃ n, T.length = n := ⟨_, rfl⟩
  rw [hn] at hr
  have HNN := Lib.hid hn; clear hn
  have h1 : ¬ r < 0 := by omega
  have h2 : (n : Int) ≤ r := hr
  go_enter Tryz.func52, Tryz.ntmps52
  go_wp2_with fail
  refine (HA.out _).mono ?_
  rintro e w2 ⟨v2, X, rfl, hr2, hb2⟩
  have HB2 := Lib.hid hb2
  obtain ⟨a2, c2, rfl⟩ := hr2.slc
  rw [HNN.out]
  clear hr2 hb2
  go_wp2
  go_ret2
  exact ⟨rfl, HB2.out⟩
set_option maxRecDepth 100000 in
set_option maxHeartbeats 4000000 in
theorem spec_CompleteWith_yes (m r : Nat) (w : World) (h : isSz (m : Int) = true) (h8 : m ≤ 8) (hr : r < (cmT m).length) :
    Calls Tryz.prog 53 #[.int .i64 m, .int .i64 r] w fun e w' => ∃ v', e = .returned (.tuple #[v', .bool true]) ∧ Row w' w.heap.size v' ((cmT m).getD r []) ∧ Below w.heap.size w w' := by
  have HF := Lib.hid (fun w => cmFew_any (m : Int) w)
  have hf : few (m : Int) = true := by unfold few; rw [h, decide_eq_true (by omega)]; rfl
  rw [hf] at HF
  have HA := Lib.hid (fun w => cmAll_0 m w h h8)
  have hln : (cmT m).length ≤ 16777216 := lvl_few h8 (by omega)
  clear h hf
  generalize cmT m = T at *
  obtain ⟨n, hn⟩ : ∃ n, T.length = n := ⟨_, rfl⟩
  rw [hn] at hln hr
  have HNN := Lib.hid hn; clear hn
  have HI := Lib.hid (fun w => l1In_yes (r : Int) 0 ((n : Int) - 1) w (by omega) (by omega))
  have hwr : IntKind.i64.wrap ((n : Int) - 1) = (n : Int) - 1 := IntWalk.i64_in _ (by omega)
  have hr0 : (0 : Int) ≤ (r : Int) := by omega
  have hr1 : (r : Int) < (n : Int) := by omega
  generalize hTr : T.getD r [] = Tr at *
  have HTr := Lib.hid hTr; clear hTr
  go_enter Tryz.func53, Tryz.ntmps53
  go_wp2_with fail
  refine (HF.out _).mono ?_
  rintro e w1 ⟨rfl, hb1⟩
  have HB1 := Lib.hid hb1; clear hb1
  go_wp2_with fail
  refine (HA.out _).mono ?_
  rintro e w2 ⟨v2, X, rfl, hr2, hb2⟩
  have HB2 : Hid (Below w.heap.size w w2) := Lib.hid (HB1.out.trans (hb2.mono HB1.out.size))
  obtain ⟨g2, c2, rfl, _, hgl2, hcx⟩ := hr2.form (by rw [HNN.out]; omega)
  have hin := hr2.inner r (by rw [HNN.out]; exact hr)
  rw [HTr.out] at hin
  have hxr := hcx r (by rw [HNN.out]; exact hr)
  have HIN := Lib.hid (hin.mono HB1.out.size)
  generalize hX : X r = xr at *
  obtain ⟨a3, c3, rfl⟩ := hin.sl.form
  clear hX
  rw [HNN.out]
  clear hr2 hb2 hcx hin
  go_wp2_with fail
  refine (HI.out _).mono ?_
  rintro e w3 ⟨rfl, rfl⟩
  go_wp2
  go_ret2
  exact ⟨_, rfl, HIN.out, HB2.out⟩
set_option maxRecDepth 100000 in
set_option maxHeartbeats 4000000 in
theorem impl_CompleteWith_yes (m r : Nat) (w : World) (h : isSz (m : Int) = true) (h8 : m ≤ 8) (hr : r < (cmT m).length) :
    Calls Tryz.prog 52 #[.int .i64 m, .int .i64 r] w fun e w' => ∃ v', e = .returned (.tuple #[v', .bool true]) ∧ Row w' w.heap.size v' ((cmT m).getD r []) ∧ Below w.heap.size w w' := by
  have hq := isSz_le (m : Int) h
  have HA := Lib.hid (fun w => allTables_yes m w h h8)
  obtain ⟨hbg, hlm⟩ := cmT_mem (m := m) (by omega) (getD_mem hr)
  have HNU := Lib.hid (fun x w' (hx : HE w' m x ((cmT m).getD r [])) => numbersH m x _ w' h hx hbg (by omega))
  clear h hbg hlm
  generalize cmT m = T at *
  obtain ⟨n, hn⟩ : ∃ n, T.length = n := ⟨_, rfl⟩
  rw [hn] at hr
  have HNN := Lib.hid hn; clear hn
  have hr0 : (0 : Int) ≤ (r : Int) := by omega
  have hr1 : (r : Int) < (n : Int) := by omega
  have hr2' : ¬ (r : Int) < 0 := by omega
  have hr3 : ¬ (n : Int) ≤ (r : Int) := by omega
  generalize hTr : T.getD r [] = Tr at *
  have HTr := Lib.hid hTr; clear hTr
  go_enter Tryz.func52, Tryz.ntmps52
  go_wp2_with fail
  refine (HA.out _).mono ?_
  rintro e w2 ⟨v2, X, rfl, hr2, hb2⟩
  have HB2 := Lib.hid hb2
  rcases hr2.how with ⟨_, e0⟩ | ⟨g2, c2, rfl, _, hgl2, hcx⟩
  · rw [e0] at HNN
    have := HNN.out
    simp at this
    omega
  have hin := hr2.inner r (by rw [HNN.out]; exact hr)
  rw [HTr.out] at hin
  have hxr := hcx r (by rw [HNN.out]; exact hr)
  generalize hX : X r = xr at *
  have HIN := Lib.hid hin
  obtain ⟨a3, c3, rfl⟩ : ∃ a c, xr = .slice a Tr.length c := by obtain ⟨g, cap, cur, e, _⟩ := hin; exact ⟨_, _, e⟩
  clear hX
  rw [HNN.out]
  clear hr2 hb2 hcx hin
  go_wp2_with fail
  refine (HNU.out _ _ HIN.out).mono ?_
  rintro e w3 ⟨v3, rfl, hr3', hb3⟩
  have HR3 := Lib.hid (hr3'.mono HB2.out.size)
  have HB3 : Hid (Below w.heap.size w w3) := Lib.hid (HB2.out.trans (hb3.mono HB2.out.size))
  clear hr3' hb3
  go_wp2
  go_ret2
  exact ⟨_, rfl, HR3.out, HB3.out⟩
theorem key_CompleteWith (q : Int) (rank : Int) : ∃ (r : List Int) (o : Bool), r.length ≤ 1048576 ∧ (∀ (w : World), Calls Tryz.prog 53 #[.int .i64 q, .int .i64 rank] w fun e w' => ∃ v, e = .returned (.tuple #[v, .bool o]) ∧ Row w' w.heap.size v r ∧ Below w.heap.size w w') ∧
      (∀ (w : World), Calls Tryz.prog 52 #[.int .i64 q, .int .i64 rank] w fun e w' => ∃ v, e = .returned (.tuple #[v, .bool o]) ∧ Row w' w.heap.size v r ∧ Below w.heap.size w w') := by
  cases h : few q with
  | false => exact ⟨[], false, by simp, fun w => (spec_CompleteWith_no q rank w h).mono fun _ _ ⟨he, hb⟩ => ⟨_, he, Row.nil _ _, hb⟩, fun w => (impl_CompleteWith_no q rank w h).mono fun _ _ ⟨he, hb⟩ => ⟨_, he, Row.nil _ _, hb⟩⟩
  | true =>
    obtain ⟨m, rfl, hs, h8⟩ := few_nat h
    by_cases h0 : rank < 0
    · exact ⟨[], false, by simp, fun w => (spec_CompleteWith_no1 m rank w hs h8 h0).mono fun _ _ ⟨he, hb⟩ => ⟨_, he, Row.nil _ _, hb⟩, fun w => (impl_CompleteWith_no1 m rank w hs h8 h0).mono fun _ _ ⟨he, hb⟩ => ⟨_, he, Row.nil _ _, hb⟩⟩
    · by_cases h1 : ((cmT m).length : Int) ≤ rank
      · exact ⟨[], false, by simp, fun w => (spec_CompleteWith_no0 m rank w hs h8 (by omega) h1).mono fun _ _ ⟨he, hb⟩ => ⟨_, he, Row.nil _ _, hb⟩, fun w => (impl_CompleteWith_no0 m rank w hs h8 (by omega) h1).mono fun _ _ ⟨he, hb⟩ => ⟨_, he, Row.nil _ _, hb⟩⟩
      · obtain ⟨r, rfl⟩ := Int.eq_ofNat_of_zero_le (show 0 ≤ rank by omega)
        have hr : r < (cmT m).length := by omega
        have hq := isSz_le (m : Int) hs
        refine ⟨_, true, ?_, fun w => spec_CompleteWith_yes m r w hs h8 hr, fun w => impl_CompleteWith_yes m r w hs h8 hr⟩
        have := (cmT_mem (m := m) (by omega) (getD_mem hr)).2
        omega
end Go.Proofs.YtapglncgicfjnabGreat
