/- impl.IsPoly and IsTable, spec.IsPoly and IsTable by contracts; the walks of their laws. -/
import Derived.Test.YtljijnanmpajaaaGreatKI
import Derived.Test.YtljijnanmpajaaaGreatKC
namespace Go.Proofs.YtljijnanmpajaaaGreat
open Go.RowKit

set_option maxHeartbeats 1000000 in
theorem spec_IsPoly_any (q : Int) (v : Value) (l : List Int) (w : World) (h : Sl w v l) (hl : l.length ≤ 1048576) :
    Calls Tryz.prog 29 #[.int .i64 q, v] w fun e w' => e = .returned (.tuple #[.bool (isSz q && (decide (l.length ≤ 40) && good q l)), .bool (isSz q && decide (l.length ≤ 40))]) ∧ Below w.heap.size w w' := by
  have HL := Lib.hid (fun w' (hb : Below w.heap.size w w') => plGood_any q v l w' (h.below hb (Nat.le_refl _)) hl)
  obtain ⟨a, cap, rfl⟩ := h.form
  clear h
  cases hs : isSz q with
  | false =>
    generalize l.length = n at *
    have HS := Lib.hid hs; clear hs
    go_enter Tryz.func29, Tryz.ntmps29
    go_wp2_with fail
    refine (fdSize_any _ _).mono ?_
    rintro e w1 ⟨rfl, hb1⟩
    rw [HS.out]
    go_wp2_with fail
    go_ret2
    exact ⟨rfl, hb1⟩
  | true =>
    have hdd : isSz q = true := hs
    rw [hdd] at HL
    by_cases hlen : l.length ≤ 40
    · have hn : ¬ (40 : Int) < (l.length : Int) := by omega
      have hd : decide (l.length ≤ 40) = true := by simpa using hlen
      rw [hd]
      generalize l.length = n at *
      have HS := Lib.hid hs; clear hs hdd hd
      go_enter Tryz.func29, Tryz.ntmps29
      go_wp2_with fail
      refine (fdSize_any _ _).mono ?_
      rintro e w1 ⟨rfl, hb1⟩
      rw [HS.out]
      have hz_hb1 := hb1.size; (try simp at hz_hb1)
      have HB1 := Lib.hid hb1; clear hb1
      go_wp2_with fail
      refine (HL.out _ HB1.out).mono ?_
      rintro e w2 ⟨rfl, hb2⟩
      have HB2 := Lib.hid hb2; clear hb2
      go_wp2
      go_ret2
      exact ⟨rfl, HB1.out.trans (HB2.out.mono hz_hb1)⟩
    · have hn : (40 : Int) < (l.length : Int) := by omega
      have hd : decide (l.length ≤ 40) = false := by simpa using hlen
      rw [hd]
      generalize l.length = n at *
      have HS := Lib.hid hs; clear hs hdd hd
      go_enter Tryz.func29, Tryz.ntmps29
      go_wp2_with fail
      refine (fdSize_any _ _).mono ?_
      rintro e w1 ⟨rfl, hb1⟩
      rw [HS.out]
      have HB1 := Lib.hid hb1; clear hb1
      go_wp2_with fail
      go_ret2
      exact ⟨rfl, HB1.out⟩
set_option maxHeartbeats 1000000 in
theorem impl_IsPoly_any (q : Int) (v : Value) (l : List Int) (w : World) (h : Sl w v l) (hl : l.length ≤ 1048576) :
    Calls Tryz.prog 15 #[.int .i64 q, v] w fun e w' => e = .returned (.tuple #[.bool (isSz q && (decide (l.length ≤ 40) && good q l)), .bool (isSz q && decide (l.length ≤ 40))]) ∧ Below w.heap.size w w' := by
  have HLI := Lib.hid (fun w' (hb : Below w.heap.size w w') => fun (hq : 0 ≤ q) => isPoly_any q v l w' (h.below hb (Nat.le_refl _)) hl hq)
  obtain ⟨a, cap, rfl⟩ := h.form
  clear h
  cases hs : isSz q with
  | false =>
    have HF := Lib.hid (fun w => fieldOf_no q w hs)
    clear HLI hs
    generalize l.length = n at *
    go_enter Tryz.func15, Tryz.ntmps15
    go_wp2_with fail
    refine (HF.out _).mono ?_
    rintro e w1 ⟨rfl, hb1⟩
    have hz_hb1 := hb1.size; (try simp at hz_hb1)
    have HB1 := Lib.hid hb1; clear hb1
    go_wp2_with fail
    go_ret2
    have hb1 := HB1.out
    exact ⟨rfl, by (repeat' (first | (with_reducible assumption) | (with_reducible exact Below.refl _ _) | (with_reducible refine below_drewN ?_ _) | (with_reducible refine Below.drew ?_) | (with_reducible refine Below.alloc ?_ ?_ _) | (with_reducible refine Below.setCell ?_ ?_ _) | (with_reducible refine Below.trans ?_ (Below.mono (by assumption) ?_)) | (with_reducible exact Nat.le_refl _) | (with_reducible assumption) | omega | (simp; omega) | (simp; done)))⟩
  | true =>
    have HF := Lib.hid (fun w => fieldOf_yes q w hs)
    have hq := isSz_le q hs
    have HL := Lib.hid (fun w' hb => HLI.out w' hb (by omega))
    clear HLI hs
    by_cases hlen : l.length ≤ 40
    · have hn : ¬ (40 : Int) < (l.length : Int) := by omega
      have hd : decide (l.length ≤ 40) = true := by simpa using hlen
      rw [hd]
      generalize l.length = n at *
      clear hd
      go_enter Tryz.func15, Tryz.ntmps15
      go_wp2_with fail
      refine (HF.out _).mono ?_
      rintro e w1 ⟨rfl, hb1⟩
      have hz_hb1 := hb1.size; (try simp at hz_hb1)
      have HB1 := Lib.hid hb1; clear hb1
      go_wp2_with fail
      refine (HL.out _ (by have hb1 := HB1.out; (repeat' (first | (with_reducible assumption) | (with_reducible exact Below.refl _ _) | (with_reducible refine below_drewN ?_ _) | (with_reducible refine Below.drew ?_) | (with_reducible refine Below.alloc ?_ ?_ _) | (with_reducible refine Below.setCell ?_ ?_ _) | (with_reducible refine Below.trans ?_ (Below.mono (by assumption) ?_)) | (with_reducible exact Nat.le_refl _) | (with_reducible assumption) | omega | (simp; omega) | (simp; done))))).mono ?_
      rintro e w2 ⟨rfl, hb2⟩
      have hz_hb2 := hb2.size; (try simp at hz_hb2)
      have HB2 := Lib.hid hb2; clear hb2
      go_wp2
      go_ret2
      have hb1 := HB1.out
      have hb2 := HB2.out
      exact ⟨rfl, by (repeat' (first | (with_reducible assumption) | (with_reducible exact Below.refl _ _) | (with_reducible refine below_drewN ?_ _) | (with_reducible refine Below.drew ?_) | (with_reducible refine Below.alloc ?_ ?_ _) | (with_reducible refine Below.setCell ?_ ?_ _) | (with_reducible refine Below.trans ?_ (Below.mono (by assumption) ?_)) | (with_reducible exact Nat.le_refl _) | (with_reducible assumption) | omega | (simp; omega) | (simp; done)))⟩
    · have hn : (40 : Int) < (l.length : Int) := by omega
      have hd : decide (l.length ≤ 40) = false := by simpa using hlen
      rw [hd]
      generalize l.length = n at *
      clear hd
      go_enter Tryz.func15, Tryz.ntmps15
      go_wp2_with fail
      refine (HF.out _).mono ?_
      rintro e w1 ⟨rfl, hb1⟩
      have hz_hb1 := hb1.size; (try simp at hz_hb1)
      have HB1 := Lib.hid hb1; clear hb1
      go_wp2_with fail
      go_ret2
      have hb1 := HB1.out
      exact ⟨rfl, by (repeat' (first | (with_reducible assumption) | (with_reducible exact Below.refl _ _) | (with_reducible refine below_drewN ?_ _) | (with_reducible refine Below.drew ?_) | (with_reducible refine Below.alloc ?_ ?_ _) | (with_reducible refine Below.setCell ?_ ?_ _) | (with_reducible refine Below.trans ?_ (Below.mono (by assumption) ?_)) | (with_reducible exact Nat.le_refl _) | (with_reducible assumption) | omega | (simp; omega) | (simp; done)))⟩

theorem key_IsPoly (q : Int) (l_f : List Int) (b_f : l_f.length ≤ 1048576) : ∃ (r : Bool) (o : Bool), (∀ (w : World) (v_f : Value) (_ : Sl w v_f l_f), Calls Tryz.prog 29 #[.int .i64 q, v_f] w fun e w' => e = .returned (.tuple #[.bool r, .bool o]) ∧ Below w.heap.size w w') ∧
      (∀ (w : World) (v_f : Value) (_ : Sl w v_f l_f), Calls Tryz.prog 15 #[.int .i64 q, v_f] w fun e w' => e = .returned (.tuple #[.bool r, .bool o]) ∧ Below w.heap.size w w') := by
  exact ⟨_, _, fun w v h => spec_IsPoly_any q v l_f w h b_f, fun w v h => impl_IsPoly_any q v l_f w h b_f⟩
set_option maxHeartbeats 1000000 in
theorem spec_IsTable_any (q : Int) (v : Value) (l : List Int) (w : World) (h : Sl w v l) (hl : l.length ≤ 1048576) :
    Calls Tryz.prog 20 #[.int .i64 q, v] w fun e w' => e = .returned (.tuple #[.bool (isSz q && (decide (l.length ≤ 40) && tabl q l)), .bool (isSz q && decide (l.length ≤ 40))]) ∧ Below w.heap.size w w' := by
  have HL := Lib.hid (fun w' (hb : Below w.heap.size w w') => plTable_any q v l w' (h.below hb (Nat.le_refl _)) hl)
  obtain ⟨a, cap, rfl⟩ := h.form
  clear h
  cases hs : isSz q with
  | false =>
    generalize l.length = n at *
    have HS := Lib.hid hs; clear hs
    go_enter Tryz.func20, Tryz.ntmps20
    go_wp2_with fail
    refine (fdSize_any _ _).mono ?_
    rintro e w1 ⟨rfl, hb1⟩
    rw [HS.out]
    go_wp2_with fail
    go_ret2
    exact ⟨rfl, hb1⟩
  | true =>
    have hdd : isSz q = true := hs
    rw [hdd] at HL
    by_cases hlen : l.length ≤ 40
    · have hn : ¬ (40 : Int) < (l.length : Int) := by omega
      have hd : decide (l.length ≤ 40) = true := by simpa using hlen
      rw [hd]
      generalize l.length = n at *
      have HS := Lib.hid hs; clear hs hdd hd
      go_enter Tryz.func20, Tryz.ntmps20
      go_wp2_with fail
      refine (fdSize_any _ _).mono ?_
      rintro e w1 ⟨rfl, hb1⟩
      rw [HS.out]
      have hz_hb1 := hb1.size; (try simp at hz_hb1)
      have HB1 := Lib.hid hb1; clear hb1
      go_wp2_with fail
      refine (HL.out _ HB1.out).mono ?_
      rintro e w2 ⟨rfl, hb2⟩
      have HB2 := Lib.hid hb2; clear hb2
      go_wp2
      go_ret2
      exact ⟨rfl, HB1.out.trans (HB2.out.mono hz_hb1)⟩
    · have hn : (40 : Int) < (l.length : Int) := by omega
      have hd : decide (l.length ≤ 40) = false := by simpa using hlen
      rw [hd]
      generalize l.length = n at *
      have HS := Lib.hid hs; clear hs hdd hd
      go_enter Tryz.func20, Tryz.ntmps20
      go_wp2_with fail
      refine (fdSize_any _ _).mono ?_
      rintro e w1 ⟨rfl, hb1⟩
      rw [HS.out]
      have HB1 := Lib.hid hb1; clear hb1
      go_wp2_with fail
      go_ret2
      exact ⟨rfl, HB1.out⟩
set_option maxHeartbeats 1000000 in
theorem impl_IsTable_any (q : Int) (v : Value) (l : List Int) (w : World) (h : Sl w v l) (hl : l.length ≤ 1048576) :
    Calls Tryz.prog 16 #[.int .i64 q, v] w fun e w' => e = .returned (.tuple #[.bool (isSz q && (decide (l.length ≤ 40) && tabl q l)), .bool (isSz q && decide (l.length ≤ 40))]) ∧ Below w.heap.size w w' := by
  have HLI := Lib.hid (fun w' (hb : Below w.heap.size w w') => fun (_ : 0 ≤ q) => isTable_any q v l w' (h.below hb (Nat.le_refl _)) hl)
  obtain ⟨a, cap, rfl⟩ := h.form
  clear h
  cases hs : isSz q with
  | false =>
    have HF := Lib.hid (fun w => fieldOf_no q w hs)
    clear HLI hs
    generalize l.length = n at *
    go_enter Tryz.func16, Tryz.ntmps16
    go_wp2_with fail
    refine (HF.out _).mono ?_
    rintro e w1 ⟨rfl, hb1⟩
    have hz_hb1 := hb1.size; (try simp at hz_hb1)
    have HB1 := Lib.hid hb1; clear hb1
    go_wp2_with fail
    go_ret2
    have hb1 := HB1.out
    exact ⟨rfl, by (repeat' (first | (with_reducible assumption) | (with_reducible exact Below.refl _ _) | (with_reducible refine below_drewN ?_ _) | (with_reducible refine Below.drew ?_) | (with_reducible refine Below.alloc ?_ ?_ _) | (with_reducible refine Below.setCell ?_ ?_ _) | (with_reducible refine Below.trans ?_ (Below.mono (by assumption) ?_)) | (with_reducible exact Nat.le_refl _) | (with_reducible assumption) | omega | (simp; omega) | (simp; done)))⟩
  | true =>
    have HF := Lib.hid (fun w => fieldOf_yes q w hs)
    have hq := isSz_le q hs
    have HL := Lib.hid (fun w' hb => HLI.out w' hb (by omega))
    clear HLI hs
    by_cases hlen : l.length ≤ 40
    · have hn : ¬ (40 : Int) < (l.length : Int) := by omega
      have hd : decide (l.length ≤ 40) = true := by simpa using hlen
      rw [hd]
      generalize l.length = n at *
      clear hd
      go_enter Tryz.func16, Tryz.ntmps16
      go_wp2_with fail
      refine (HF.out _).mono ?_
      rintro e w1 ⟨rfl, hb1⟩
      have hz_hb1 := hb1.size; (try simp at hz_hb1)
      have HB1 := Lib.hid hb1; clear hb1
      go_wp2_with fail
      refine (HL.out _ (by have hb1 := HB1.out; (repeat' (first | (with_reducible assumption) | (with_reducible exact Below.refl _ _) | (with_reducible refine below_drewN ?_ _) | (with_reducible refine Below.drew ?_) | (with_reducible refine Below.alloc ?_ ?_ _) | (with_reducible refine Below.setCell ?_ ?_ _) | (with_reducible refine Below.trans ?_ (Below.mono (by assumption) ?_)) | (with_reducible exact Nat.le_refl _) | (with_reducible assumption) | omega | (simp; omega) | (simp; done))))).mono ?_
      rintro e w2 ⟨rfl, hb2⟩
      have hz_hb2 := hb2.size; (try simp at hz_hb2)
      have HB2 := Lib.hid hb2; clear hb2
      go_wp2
      go_ret2
      have hb1 := HB1.out
      have hb2 := HB2.out
      exact ⟨rfl, by (repeat' (first | (with_reducible assumption) | (with_reducible exact Below.refl _ _) | (with_reducible refine below_drewN ?_ _) | (with_reducible refine Below.drew ?_) | (with_reducible refine Below.alloc ?_ ?_ _) | (with_reducible refine Below.setCell ?_ ?_ _) | (with_reducible refine Below.trans ?_ (Below.mono (by assumption) ?_)) | (with_reducible exact Nat.le_refl _) | (with_reducible assumption) | omega | (simp; omega) | (simp; done)))⟩
    · have hn : (40 : Int) < (l.length : Int) := by omega
      have hd : decide (l.length ≤ 40) = false := by simpa using hlen
      rw [hd]
      generalize l.length = n at *
      clear hd
      go_enter Tryz.func16, Tryz.ntmps16
      go_wp2_with fail
      refine (HF.out _).mono ?_
      rintro e w1 ⟨rfl, hb1⟩
      have hz_hb1 := hb1.size; (try simp at hz_hb1)
      have HB1 := Lib.hid hb1; clear hb1
      go_wp2_with fail
      go_ret2
      have hb1 := HB1.out
      exact ⟨rfl, by (repeat' (first | (with_reducible assumption) | (with_reducible exact Below.refl _ _) | (with_reducible refine below_drewN ?_ _) | (with_reducible refine Below.drew ?_) | (with_reducible refine Below.alloc ?_ ?_ _) | (with_reducible refine Below.setCell ?_ ?_ _) | (with_reducible refine Below.trans ?_ (Below.mono (by assumption) ?_)) | (with_reducible exact Nat.le_refl _) | (with_reducible assumption) | omega | (simp; omega) | (simp; done)))⟩

theorem key_IsTable (q : Int) (l_f : List Int) (b_f : l_f.length ≤ 1048576) : ∃ (r : Bool) (o : Bool), (∀ (w : World) (v_f : Value) (_ : Sl w v_f l_f), Calls Tryz.prog 20 #[.int .i64 q, v_f] w fun e w' => e = .returned (.tuple #[.bool r, .bool o]) ∧ Below w.heap.size w w') ∧
      (∀ (w : World) (v_f : Value) (_ : Sl w v_f l_f), Calls Tryz.prog 16 #[.int .i64 q, v_f] w fun e w' => e = .returned (.tuple #[.bool r, .bool o]) ∧ Below w.heap.size w w') := by
  exact ⟨_, _, fun w v h => spec_IsTable_any q v l_f w h b_f, fun w v h => impl_IsTable_any q v l_f w h b_f⟩
end Go.Proofs.YtljijnanmpajaaaGreat
