/- impl.countedField, formsOfNormal, NormalWith and CountPermuting, by contracts. -/
import Derived.Test.YtnmdcmbcackchabMK
import Derived.Test.YtnmdcmbcackchabMJ
namespace Go.Proofs.Ytnmdcmbcackchab
open Go.RowKit
abbrev fzb : Obj := .cells #[.int .i64 0, .int .i64 0, .int .i64 0] 43
set_option maxRecDepth 100000 in
set_option maxHeartbeats 4000000 in
theorem counted_yes (m d : Nat) (w : World) (h : isSz (m : Int) = true) (h7 : m ≤ 7) (hd : 1 ≤ d) (hdm : d < m) :
    Calls Try.prog 49 #[.int .i64 m, .int .i64 d] w fun e w' => e = .returned (.tuple #[fdE m, .bool true]) ∧ Below w.heap.size w w' := by
  have hq := isSz_le (m : Int) h
  have HF := Lib.hid (fun w => fieldOf_yes (m : Int) w h)
  clear h
  go_enter Try.func49, Try.ntmps49
  go_wp2_with fail
  refine (HF.out _).mono ?_
  rintro e w1 ⟨rfl, hb1⟩
  obtain ⟨hc1, hf1⟩ := bcell hb1; have hz1 := hb1.size; (try simp at hz1); have HB1 := Lib.hid hb1; clear hb1
  have l1 : w.heap.size < w1.heap.size := by omega
  go_wp2_with fail
  have hb1 := HB1.out
  have q0 : w1.heap[w.heap.size]? = some fzb := (hb1.block w.heap.size (by simp)).trans (heap_alloc_new w _)
  obtain ⟨s0, s1, s2, sf, sl⟩ := cells3' q0
  clear q0
  refine bodyPost_ret (v := .tuple #[fdE m, .bool true]) (by simp [results, Try.results49, go_sem, s0, s1, s2, sl, World.cell?_alloc_past]) rfl ⟨rfl, ?_⟩
  (repeat' (first | (with_reducible assumption) | (with_reducible exact Below.refl _ _) | (with_reducible refine below_drewN ?_ _) | (with_reducible refine Below.drew ?_) | (with_reducible refine Below.alloc ?_ ?_ _) | (with_reducible refine Below.setCell ?_ ?_ _) | (with_reducible refine Below.trans ?_ (Below.mono (by assumption) ?_)) | (with_reducible exact Nat.le_refl _) | (with_reducible assumption) | omega | (simp; omega) | (simp; done)))
set_option maxRecDepth 100000 in
set_option maxHeartbeats 4000000 in
theorem counted_no0 (q k : Int) (w : World) (h : isSz q = false) :
    Calls Try.prog 49 #[.int .i64 q, .int .i64 k] w fun e w' => e = .returned (.tuple #[.agg #[.int .i64 0, .int .i64 0, .int .i64 0], .bool false]) ∧ Below w.heap.size w w' := by
  have HF := Lib.hid (fun w => fieldOf_no q w h)
  clear h
  go_enter Try.func49, Try.ntmps49
  go_wp2_with fail
  refine (HF.out _).mono ?_
  rintro e w1 ⟨rfl, hb1⟩
  obtain ⟨hc1, hf1⟩ := bcell hb1; have hz1 := hb1.size; (try simp at hz1); have HB1 := Lib.hid hb1; clear hb1
  have l1 : w.heap.size < w1.heap.size := by omega
  go_wp2_with fail
  have hb1 := HB1.out
  have q0 : w1.heap[w.heap.size]? = some fzb := (hb1.block w.heap.size (by simp)).trans (heap_alloc_new w _)
  obtain ⟨s0, s1, s2, sf, sl⟩ := cells3' q0
  clear q0
  refine bodyPost_ret (v := .tuple #[.agg #[.int .i64 0, .int .i64 0, .int .i64 0], .bool false]) (by simp [results, Try.results49, go_sem, s0, s1, s2, sl, World.cell?_alloc_past]) rfl ⟨rfl, ?_⟩
  (repeat' (first | (with_reducible assumption) | (with_reducible exact Below.refl _ _) | (with_reducible refine below_drewN ?_ _) | (with_reducible refine Below.drew ?_) | (with_reducible refine Below.alloc ?_ ?_ _) | (with_reducible refine Below.setCell ?_ ?_ _) | (with_reducible refine Below.trans ?_ (Below.mono (by assumption) ?_)) | (with_reducible exact Nat.le_refl _) | (with_reducible assumption) | omega | (simp; omega) | (simp; done)))
set_option maxRecDepth 100000 in
set_option maxHeartbeats 4000000 in
theorem counted_no1 (q k : Int) (w : World) (h : isSz q = true) (h7 : 7 < q) :
    Calls Try.prog 49 #[.int .i64 q, .int .i64 k] w fun e w' => e = .returned (.tuple #[.agg #[.int .i64 0, .int .i64 0, .int .i64 0], .bool false]) ∧ Below w.heap.size w w' := by
  have HF := Lib.hid (fun w => fieldOf_yes q w h)
  have hq := isSz_le q h
  clear h
  go_enter Try.func49, Try.ntmps49
  go_wp2_with fail
  refine (HF.out _).mono ?_
  rintro e w1 ⟨rfl, hb1⟩
  obtain ⟨hc1, hf1⟩ := bcell hb1; have hz1 := hb1.size; (try simp at hz1); have HB1 := Lib.hid hb1; clear hb1
  have l1 : w.heap.size < w1.heap.size := by omega
  go_wp2_with fail
  have hb1 := HB1.out
  have q0 : w1.heap[w.heap.size]? = some fzb := (hb1.block w.heap.size (by simp)).trans (heap_alloc_new w _)
  obtain ⟨s0, s1, s2, sf, sl⟩ := cells3' q0
  clear q0
  refine bodyPost_ret (v := .tuple #[.agg #[.int .i64 0, .int .i64 0, .int .i64 0], .bool false]) (by simp [results, Try.results49, go_sem, s0, s1, s2, sl, World.cell?_alloc_past]) rfl ⟨rfl, ?_⟩
  (repeat' (first | (with_reducible assumption) | (with_reducible exact Below.refl _ _) | (with_reducible refine below_drewN ?_ _) | (with_reducible refine Below.drew ?_) | (with_reducible refine Below.alloc ?_ ?_ _) | (with_reducible refine Below.setCell ?_ ?_ _) | (with_reducible refine Below.trans ?_ (Below.mono (by assumption) ?_)) | (with_reducible exact Nat.le_refl _) | (with_reducible assumption) | omega | (simp; omega) | (simp; done)))
set_option maxRecDepth 100000 in
set_option maxHeartbeats 4000000 in
theorem counted_no2 (q k : Int) (w : World) (h : isSz q = true) (h7 : q ≤ 7) (hk : k < 1) :
    Calls Try.prog 49 #[.int .i64 q, .int .i64 k] w fun e w' => e = .returned (.tuple #[.agg #[.int .i64 0, .int .i64 0, .int .i64 0], .bool false]) ∧ Below w.heap.size w w' := by
  have HF := Lib.hid (fun w => fieldOf_yes q w h)
  have hq := isSz_le q h
  clear h
  go_enter Try.func49, Try.ntmps49
  go_wp2_with fail
  refine (HF.out _).mono ?_
  rintro e w1 ⟨rfl, hb1⟩
  obtain ⟨hc1, hf1⟩ := bcell hb1; have hz1 := hb1.size; (try simp at hz1); have HB1 := Lib.hid hb1; clear hb1
  have l1 : w.heap.size < w1.heap.size := by omega
  go_wp2_with fail
  have hb1 := HB1.out
  have q0 : w1.heap[w.heap.size]? = some fzb := (hb1.block w.heap.size (by simp)).trans (heap_alloc_new w _)
  obtain ⟨s0, s1, s2, sf, sl⟩ := cells3' q0
  clear q0
  refine bodyPost_ret (v := .tuple #[.agg #[.int .i64 0, .int .i64 0, .int .i64 0], .bool false]) (by simp [results, Try.results49, go_sem, s0, s1, s2, sl, World.cell?_alloc_past]) rfl ⟨rfl, ?_⟩
  (repeat' (first | (with_reducible assumption) | (with_reducible exact Below.refl _ _) | (with_reducible refine below_drewN ?_ _) | (with_reducible refine Below.drew ?_) | (with_reducible refine Below.alloc ?_ ?_ _) | (with_reducible refine Below.setCell ?_ ?_ _) | (with_reducible refine Below.trans ?_ (Below.mono (by assumption) ?_)) | (with_reducible exact Nat.le_refl _) | (with_reducible assumption) | omega | (simp; omega) | (simp; done)))
set_option maxRecDepth 100000 in
set_option maxHeartbeats 4000000 in
theorem counted_no3 (q k : Int) (w : World) (h : isSz q = true) (h7 : q ≤ 7) (hk : 1 ≤ k) (hkq : q ≤ k) :
    Calls Try.prog 49 #[.int .i64 q, .int .i64 k] w fun e w' => e = .returned (.tuple #[.agg #[.int .i64 0, .int .i64 0, .int .i64 0], .bool false]) ∧ Below w.heap.size w w' := by
  have HF := Lib.hid (fun w => fieldOf_yes q w h)
  have hq := isSz_le q h
  clear h
  go_enter Try.func49, Try.ntmps49
  go_wp2_with fail
  refine (HF.out _).mono ?_
  rintro e w1 ⟨rfl, hb1⟩
  obtain ⟨hc1, hf1⟩ := bcell hb1; have hz1 := hb1.size; (try simp at hz1); have HB1 := Lib.hid hb1; clear hb1
  have l1 : w.heap.size < w1.heap.size := by omega
  go_wp2_with fail
  have hb1 := HB1.out
  have q0 : w1.heap[w.heap.size]? = some fzb := (hb1.block w.heap.size (by simp)).trans (heap_alloc_new w _)
  obtain ⟨s0, s1, s2, sf, sl⟩ := cells3' q0
  clear q0
  refine bodyPost_ret (v := .tuple #[.agg #[.int .i64 0, .int .i64 0, .int .i64 0], .bool false]) (by simp [results, Try.results49, go_sem, s0, s1, s2, sl, World.cell?_alloc_past]) rfl ⟨rfl, ?_⟩
  (repeat' (first | (with_reducible assumption) | (with_reducible exact Below.refl _ _) | (with_reducible refine below_drewN ?_ _) | (with_reducible refine Below.drew ?_) | (with_reducible refine Below.alloc ?_ ?_ _) | (with_reducible refine Below.setCell ?_ ?_ _) | (with_reducible refine Below.trans ?_ (Below.mono (by assumption) ?_)) | (with_reducible exact Nat.le_refl _) | (with_reducible assumption) | omega | (simp; omega) | (simp; done)))
theorem counted_no (q k : Int) (w : World) (h : askd q k = false) :
    Calls Try.prog 49 #[.int .i64 q, .int .i64 k] w fun e w' => e = .returned (.tuple #[.agg #[.int .i64 0, .int .i64 0, .int .i64 0], .bool false]) ∧ Below w.heap.size w w' := by
  cases hs : isSz q with
  | false => exact counted_no0 q k w hs
  | true =>
    by_cases h7 : q ≤ 7
    · by_cases h1 : k < 1
      · exact counted_no2 q k w hs h7 h1
      · refine counted_no3 q k w hs h7 (by omega) ?_
        unfold askd at h
        rw [hs, decide_eq_true h7, decide_eq_true (show 1 ≤ k by omega)] at h
        have : ¬ k ≤ q - 1 := by simpa using h
        omega
    · exact counted_no1 q k w hs (by omega)
/-- How many have one normal form. -/
def fms (m d : Nat) : Nat := (m - 1) * m * fmN m d
set_option maxRecDepth 100000 in
set_option maxHeartbeats 4000000 in
/-- impl.field.formsOfNormal. -/
theorem formsE (m d : Nat) (w : World) (h : isSz (m : Int) = true) (h7 : m ≤ 7) (hd : 1 ≤ d) (_hdm : d < m) :
    Calls Try.prog 54 #[fdE m, .int .i64 d] w fun e w' => e = .returned (.int .i64 (fms m d)) ∧ Below w.heap.size w w' := by
  have hq := isSz_le (m : Int) h
  have hpr := pr_bd (m : Int) h
  obtain ⟨f1, hf1⟩ : ∃ x, x = (m - 1) * m := ⟨_, rfl⟩
  have hb1 : f1 ≤ 42 := by rw [hf1]; exact Nat.le_trans (Nat.mul_le_mul (show m - 1 ≤ 6 by omega) h7) (by decide)
  obtain ⟨k, hk⟩ : ∃ k, m = k + 1 := ⟨m - 1, by omega⟩
  have hmk : (m : Int) - 1 = (k : Int) := by omega
  have hm1 : (k : Int) * (m : Int) = (f1 : Int) := by rw [hf1, show m - 1 = k by omega]; rfl
  obtain ⟨f2, hf2⟩ : ∃ x, x = f1 * m := ⟨_, rfl⟩
  have hb2 : f2 ≤ 294 := by rw [hf2]; exact Nat.le_trans (Nat.mul_le_mul hb1 h7) (by decide)
  have hm2 : (f1 : Int) * (m : Int) = (f2 : Int) := by rw [hf2]; rfl
  have hF : fms m d = if 1 < d ∧ ¬ ((d : Nat) : Int) % pr m = 0 then f2 else f1 := by
    unfold fms fmN
    rw [← hf1]
    split
    · exact hf2.symm
    · exact Nat.mul_one _
  rw [hF]
  clear hF hf1 hf2 hk h
  have hp1 : (0 : Int) < pr m := by omega
  by_cases h1 : 1 < d
  · have h1' : (1 : Int) < (d : Int) := by omega
    by_cases h2 : (d : Int) % pr (m : Int) = 0
    · rw [if_neg (fun h => h.2 h2)]
      have hne : ((d : Int) % pr (m : Int) != 0) = false := by simpa using h2
      go_enter Try.func54, Try.ntmps54
      go_wp2
      go_ret
      exact ⟨rfl, by (repeat' (first | (with_reducible assumption) | (with_reducible exact Below.refl _ _) | (with_reducible refine below_drewN ?_ _) | (with_reducible refine Below.drew ?_) | (with_reducible refine Below.alloc ?_ ?_ _) | (with_reducible refine Below.setCell ?_ ?_ _) | (with_reducible refine Below.trans ?_ (Below.mono (by assumption) ?_)) | (with_reducible exact Nat.le_refl _) | (with_reducible assumption) | omega | (simp; omega) | (simp; done)))⟩
    · rw [if_pos ⟨h1, h2⟩]
      have hne : ((d : Int) % pr (m : Int) != 0) = true := by simpa using h2
      go_enter Try.func54, Try.ntmps54
      go_wp2
      go_ret
      exact ⟨rfl, by (repeat' (first | (with_reducible assumption) | (with_reducible exact Below.refl _ _) | (with_reducible refine below_drewN ?_ _) | (with_reducible refine Below.drew ?_) | (with_reducible refine Below.alloc ?_ ?_ _) | (with_reducible refine Below.setCell ?_ ?_ _) | (with_reducible refine Below.trans ?_ (Below.mono (by assumption) ?_)) | (with_reducible exact Nat.le_refl _) | (with_reducible assumption) | omega | (simp; omega) | (simp; done)))⟩
  · have h1' : (d : Int) ≤ 1 := by omega
    rw [if_neg (fun h => h1 h.1)]
    go_enter Try.func54, Try.ntmps54
    go_wp2
    go_ret
    exact ⟨rfl, by (repeat' (first | (with_reducible assumption) | (with_reducible exact Below.refl _ _) | (with_reducible refine below_drewN ?_ _) | (with_reducible refine Below.drew ?_) | (with_reducible refine Below.alloc ?_ ?_ _) | (with_reducible refine Below.setCell ?_ ?_ _) | (with_reducible refine Below.trans ?_ (Below.mono (by assumption) ?_)) | (with_reducible exact Nat.le_refl _) | (with_reducible assumption) | omega | (simp; omega) | (simp; done)))⟩
set_option maxRecDepth 100000 in
set_option maxHeartbeats 4000000 in
theorem impl_NormalWith_yes (m d : Nat) (w : World) (h : isSz (m : Int) = true) (h7 : m ≤ 7) (hd : 1 ≤ d) (hdm : d < m) :
    Calls Try.prog 20 #[.int .i64 m, .int .i64 d] w fun e w' => ∃ v X, e = .returned (.tuple #[v, .bool true]) ∧ RS w' w.heap.size v (nl m d (m ^ (d - 1))).length (PF m d (nl m d (m ^ (d - 1)))) X ∧ Below w.heap.size w w' := by
  have hq := isSz_le (m : Int) h
  have HC := Lib.hid (fun w => counted_yes m d w h h7 hd hdm)
  have HN := Lib.hid (fun w => normalPermutingE m d w h h7 hd hdm)
  have hfew := nl_few h h7 hd hdm
  generalize nl m d (m ^ (d - 1)) = NL at *
  have HM := Lib.hid (fun B v Y w (hv : PS w B v m d NL Y) => mappedPN m d B v NL Y w h (by omega) hv (by omega))
  clear h
  go_enter Try.func20, Try.ntmps20
  go_wp2_with fail
  refine (HC.out _).mono ?_
  rintro e w1 ⟨rfl, hb1⟩
  have HB1 := Lib.hid hb1
  have hz1 := hb1.size
  clear hb1
  go_wp2_with fail
  refine (HN.out _).mono ?_
  rintro e w2 ⟨v2, Y2, rfl, hp2, hb2⟩
  have HP2 := Lib.hid hp2
  have HB2 := Lib.hid hb2
  have hz2 := hb2.size
  simp at hz2
  clear hb2 hp2
  go_wp2_with fail
  refine (HM.out _ _ _ _ HP2.out).mono ?_
  rintro e w3 ⟨v3, X3, rfl, hr3, hb3⟩
  have HR3 := Lib.hid hr3
  have HB3 := Lib.hid hb3
  clear hb3 hr3
  go_wp2
  go_ret2
  have hb1 := HB1.out
  have hb2 := HB2.out
  have hb3 := HB3.out
  exact ⟨v3, X3, rfl, HR3.out.mono (by omega), by (repeat' (first | (with_reducible assumption) | (with_reducible exact Below.refl _ _) | (with_reducible refine below_drewN ?_ _) | (with_reducible refine Below.drew ?_) | (with_reducible refine Below.alloc ?_ ?_ _) | (with_reducible refine Below.setCell ?_ ?_ _) | (with_reducible refine Below.trans ?_ (Below.mono (by assumption) ?_)) | (with_reducible exact Nat.le_refl _) | (with_reducible assumption) | omega | (simp; omega) | (simp; done)))⟩
set_option maxRecDepth 100000 in
set_option maxHeartbeats 4000000 in
theorem impl_CountPermuting_yes (m d : Nat) (w : World) (h : isSz (m : Int) = true) (h7 : m ≤ 7) (hd : 1 ≤ d) (hdm : d < m) :
    Calls Try.prog 25 #[.int .i64 m, .int .i64 d] w fun e w' => e = .returned (.tuple #[.int .i64 (zcl m d d 0 * (m - 1) * m : Nat), .bool true]) ∧ Below w.heap.size w w' := by
  have hq := isSz_le (m : Int) h
  have HC := Lib.hid (fun w => counted_yes m d w h h7 hd hdm)
  have HN := Lib.hid (fun w => normalPermutingE m d w h h7 hd hdm)
  have HFM := Lib.hid (fun w => formsE m d w h h7 hd hdm)
  have hfew := nl_few h h7 hd hdm
  have hz := zcl_nl h h7 hd hdm
  have hfb : fms m d ≤ 294 := by
    unfold fms
    have h1 : fmN m d ≤ 7 := by unfold fmN; split <;> omega
    exact Nat.le_trans (Nat.mul_le_mul (Nat.mul_le_mul (show m - 1 ≤ 6 by omega) h7) h1) (by decide)
  obtain ⟨z2, hz2⟩ : ∃ x, x = (nl m d (m ^ (d - 1))).length * fms m d := ⟨_, rfl⟩
  have hzz : zcl m d d 0 * (m - 1) * m = z2 := by
    rw [hz2, hz]
    unfold fms
    generalize (nl m d (m ^ (d - 1))).length = a
    generalize fmN m d = b
    generalize m - 1 = c
    rw [Nat.mul_assoc a b c, Nat.mul_assoc a (b * c) m, Nat.mul_comm (c * m) b, Nat.mul_assoc b c m]
  rw [hzz]
  have hmul : ((nl m d (m ^ (d - 1))).length : Int) * (fms m d : Int) = (z2 : Int) := by rw [hz2]; rfl
  have hwz : z2 ≤ 11760 → IntKind.i64.wrap (z2 : Int) = (z2 : Int) := fun h => by rw [IntKind.wrap_i64]; omega
  have hzb : z2 ≤ 11760 := by rw [hz2]; exact Nat.le_trans (Nat.mul_le_mul hfew hfb) (by decide)
  have hwz := hwz hzb
  clear hz hz2 hzz h
  have HNN : Hid (∀ w, Calls Try.prog 51 #[fdE m, .int .i64 d] w fun e w' => ∃ a c, e = .returned (.slice a (nl m d (m ^ (d - 1))).length c) ∧ Below w.heap.size w w') := Lib.hid fun w => (HN.out w).mono (by
    rintro e w' ⟨v, Y, rfl, hp, hb⟩
    obtain ⟨a, c, rfl⟩ := owns_slice' hp.outer
    exact ⟨a, c, rfl, hb⟩)
  clear HN
  generalize (nl m d (m ^ (d - 1))).length = n at *
  generalize fms m d = f at *
  go_enter Try.func25, Try.ntmps25
  go_wp2_with fail
  refine (HC.out _).mono ?_
  rintro e w1 ⟨rfl, hb1⟩
  have HB1 := Lib.hid hb1
  have hz1 := hb1.size
  clear hb1
  have HKEEP : Hid (∀ w', Below (w1.heap.size + 1) (w1.alloc (ffblk m)) w' → w'.cell? ⟨w1.heap.size, 0, none⟩ = some (.int .i64 m) ∧ w'.cell? ⟨w1.heap.size, 1, none⟩ = some (.int .i64 (pr m)) ∧ w'.cell? ⟨w1.heap.size, 2, none⟩ = some (.int .i64 (pl m))) := Lib.hid fun w' hb => by
    obtain ⟨x0, x1, x2, _⟩ := cells3' ((hb.block w1.heap.size (by omega)).trans (heap_alloc_new w1 (ffblk m)))
    exact ⟨x0, x1, x2⟩
  go_wp2_with fail
  go_region_held3 (fun w' => w'.cell? ⟨w1.heap.size, 0, none⟩ = some (.int .i64 m) ∧ w'.cell? ⟨w1.heap.size, 1, none⟩ = some (.int .i64 (pr m)) ∧ w'.cell? ⟨w1.heap.size, 2, none⟩ = some (.int .i64 (pl m)))
    ((refine HKEEP.out _ ?_; (try have hb4 := HB4.out); (try have hb5 := HB5.out); (repeat' (first | (with_reducible assumption) | (with_reducible exact Below.refl _ _) | (with_reducible refine below_drewN ?_ _) | (with_reducible refine Below.drew ?_) | (with_reducible refine Below.alloc ?_ ?_ _) | (with_reducible refine Below.setCell ?_ ?_ _) | (with_reducible refine Below.trans ?_ (Below.mono (by assumption) ?_)) | (with_reducible exact Nat.le_refl _) | (with_reducible assumption) | omega | (simp; omega) | (simp; done)))))
    (first
    | (go_at_call 51; refine (HNN.out _).mono ?_; rintro e w4 ⟨a4, c4, rfl, hb4⟩; obtain ⟨hc4, hf4⟩ := bcell hb4; (try simp only [World.size_drew] at hc4 hf4); have hz4 := hb4.size; (try simp at hz4); have HB4 := Lib.hid hb4; clear hb4)
    | (go_at_call 54; refine (HFM.out _).mono ?_; rintro e w5 ⟨rfl, hb5⟩; obtain ⟨hc5, hf5⟩ := bcell hb5; (try simp only [World.size_drew] at hc5 hf5); have hz5 := hb5.size; (try simp at hz5); have HB5 := Lib.hid hb5; clear hb5))
  all_goals
    go_wp2
    go_ret2
    have hb1 := HB1.out
    have hb4 := HB4.out
    have hb5 := HB5.out
    exact ⟨rfl, by (repeat' (first | (with_reducible assumption) | (with_reducible exact Below.refl _ _) | (with_reducible refine below_drewN ?_ _) | (with_reducible refine Below.drew ?_) | (with_reducible refine Below.alloc ?_ ?_ _) | (with_reducible refine Below.setCell ?_ ?_ _) | (with_reducible refine Below.trans ?_ (Below.mono (by assumption) ?_)) | (with_reducible exact Nat.le_refl _) | (with_reducible assumption) | omega | (simp; omega) | (simp; done)))⟩
theorem impl_NormalWith_no (q k : Int) (w : World) (h : askd q k = false) :
    Calls Try.prog 20 #[.int .i64 q, .int .i64 k] w fun e w' => e = .returned (.tuple #[.slice none 0 0, .bool false]) ∧ Below w.heap.size w w' := by
  have HC := Lib.hid (fun w => counted_no q k w h)
  clear h
  go_enter Try.func20, Try.ntmps20
  go_wp2_with fail
  refine (HC.out _).mono ?_
  rintro e w1 ⟨rfl, hb1⟩
  have HB1 := Lib.hid hb1
  have hz1 := hb1.size
  clear hb1
  go_wp2_with fail
  go_ret2
  have hb1 := HB1.out
  exact ⟨rfl, by (repeat' (first | (with_reducible assumption) | (with_reducible exact Below.refl _ _) | (with_reducible refine below_drewN ?_ _) | (with_reducible refine Below.drew ?_) | (with_reducible refine Below.alloc ?_ ?_ _) | (with_reducible refine Below.setCell ?_ ?_ _) | (with_reducible refine Below.trans ?_ (Below.mono (by assumption) ?_)) | (with_reducible exact Nat.le_refl _) | (with_reducible assumption) | omega | (simp; omega) | (simp; done)))⟩
theorem impl_CountPermuting_no (q k : Int) (w : World) (h : askd q k = false) :
    Calls Try.prog 25 #[.int .i64 q, .int .i64 k] w fun e w' => e = .returned (.tuple #[.int .i64 0, .bool false]) ∧ Below w.heap.size w w' := by
  have HC := Lib.hid (fun w => counted_no q k w h)
  clear h
  go_enter Try.func25, Try.ntmps25
  go_wp2_with fail
  refine (HC.out _).mono ?_
  rintro e w1 ⟨rfl, hb1⟩
  have HB1 := Lib.hid hb1
  have hz1 := hb1.size
  clear hb1
  go_wp2_with fail
  go_ret2
  have hb1 := HB1.out
  exact ⟨rfl, by (repeat' (first | (with_reducible assumption) | (with_reducible exact Below.refl _ _) | (with_reducible refine below_drewN ?_ _) | (with_reducible refine Below.drew ?_) | (with_reducible refine Below.alloc ?_ ?_ _) | (with_reducible refine Below.setCell ?_ ?_ _) | (with_reducible refine Below.trans ?_ (Below.mono (by assumption) ?_)) | (with_reducible exact Nat.le_refl _) | (with_reducible assumption) | omega | (simp; omega) | (simp; done)))⟩
end Go.Proofs.Ytnmdcmbcackchab
