/- impl.IterateTable and spec.IterateTable by contracts; the walk of their law. -/
import Derived.Test.YthklnfanbegecaaHE
import Derived.Test.YthklnfanbegecaaHC
import Derived.Test.YthklnfanbegecaaFG
namespace Go.Proofs.Ythklnfanbegecaa
open Go.RowKit
/-- The entry that x leads to in k steps. -/
def itn (t : Nat → Nat) : Nat → Nat → Nat
  | 0, x => x
  | k + 1, x => t (itn t k x)
theorem itn_lt (t : Nat → Nat) (n : Nat) (ht : ∀ x, x < n → t x < n) (k x : Nat) (hx : x < n) : itn t k x < n := by
  induction k with
  | zero => exact hx
  | succ k ih => exact ht _ ih
/-- A table's entries as natural numbers. -/
theorem tabl_nat {q : Int} {l : List Int} (h : tabl q l = true) : (l.length : Int) = q ∧ ∃ t : Nat → Nat, (∀ x, x < l.length → t x < l.length) ∧ ∀ x, x < l.length → l.getD x 0 = (t x : Int) := by
  simp only [tabl, Bool.and_eq_true, decide_eq_true_eq] at h
  refine ⟨h.1, fun x => (l.getD x 0).toNat, ?_, ?_⟩
  · intro x hx
    have := List.all_eq_true.1 h.2 (l.getD x 0) (by rw [show l.getD x 0 = l[x] by simp [List.getD, hx]]; exact List.getElem_mem hx)
    simp only [inF, Bool.and_eq_true, decide_eq_true_eq] at this
    show (l.getD x 0).toNat < l.length
    omega
  · intro x hx
    have := List.all_eq_true.1 h.2 (l.getD x 0) (by rw [show l.getD x 0 = l[x] by simp [List.getD, hx]]; exact List.getElem_mem hx)
    simp only [inF, Bool.and_eq_true, decide_eq_true_eq] at this
    show l.getD x 0 = (((l.getD x 0).toNat : Nat) : Int)
    omega

set_option maxHeartbeats 2000000 in
theorem spec_IterateTable_yes (q : Int) (v : Value) (l : List Int) (k : Nat) (w : World) (hv : Sl w v l) (h : isSz q = true) (ht : tabl q l = true) (t : Nat → Nat) (htt : ∀ x, x < l.length → t x < l.length) (hte : ∀ x, x < l.length → l.getD x 0 = (t x : Int)) (k1 : k ≤ 1000) :
    Calls Try.prog 35 #[.int .i64 q, v, .int .i64 k] w fun e w' => ∃ v', e = .returned (.tuple #[v', .bool true]) ∧ Row w' w.heap.size v' (fl (fun x => (itn t k x : Int)) l.length) ∧ Below w.heap.size w w' := by
  obtain ⟨i0, hi, iz0, iz1, iz2⟩ := info_parts Try.infoI
  have hq := isSz_le q h
  have hlen := (tabl_nat ht).1
  obtain ⟨b, off, cap, rfl, hb, hc⟩ := hv.open rfl (by omega)
  have HP := Lib.hid (fun w' (hbb : Below w.heap.size w w') => by have := plTable_any q _ l w' (hv.below hbb (Nat.le_refl _)) (by omega); rw [h, ht] at this; exact this)
  have HC : Hid (∀ x, x < l.length → ∀ w', Below w.heap.size w w' → w'.cell? ⟨b, off + x, none⟩ = some (.int .i64 (t x : Int))) := Lib.hid (fun x hx w' hbb => by rw [← hte x hx]; exact (hbb.cell (p := ⟨b, off + x, none⟩) hb).trans (hc x hx))
  have HIT := Lib.hid (itn_lt t l.length htt)
  clear hc hv ht hte htt h
  subst hlen
  generalize l.length = n at *
  have hk0 : decide ((0 : Int) ≤ (k : Int)) = true := by simp
  have hk1 : decide ((k : Int) ≤ 1000) = true := by simp; omega
  go_enter Try.func35, Try.ntmps35
  go_wp2_with fail
  refine (HP.out _ (Below.refl _ _)).mono ?_
  rintro e w1 ⟨rfl, hb1⟩
  have hz_hb1 := hb1.size; (try simp at hz_hb1)
  have HB1 := Lib.hid hb1; clear hb1
  go_wp2_with fail
  refine (l1In_any _ _ _ _).mono ?_
  rintro e w2 ⟨rfl, rfl⟩
  go_wp2_with fail
  go_loopw [8, 9] (fun vo va wr => ∃ i : Nat, i ≤ n ∧ va = .int .i64 i ∧ Row wr w1.heap.size vo (fl (fun x => (itn t k x : Int)) i) ∧ Below w1.heap.size w1 wr) (fun _ va _ => n - (intOf va).toNat)
  case atStart => exact ⟨0, Nat.zero_le _, rfl, Row.nil _ _, Below.refl _ _⟩
  case round =>
    obtain ⟨i, hin, rfl, hr, hbw⟩ := hrel
    have hz := hbw.size
    have HR := Lib.hid hr; clear hr
    have HBW := Lib.hid hbw; clear hbw
    have HL := Lib.hid (fl_len (fun x => (itn t k x : Int)) i)
    have HF := Lib.hid (fl_succ (fun x => (itn t k x : Int)) i)
    by_cases hlt : i < n
    · go_wp2_with fail
      go_loopw [10, 11] (fun vy vj ws => ∃ j : Nat, j ≤ k ∧ vj = .int .i64 j ∧ vy = .int .i64 (itn t j i : Int) ∧ ws = wr) (fun _ vj _ => k - (intOf vj).toNat)
      case atStart => exact ⟨0, Nat.zero_le _, rfl, rfl, rfl⟩
      case round =>
        obtain ⟨j, hjk, rfl, rfl, rfl⟩ := hrel
        by_cases hlt2 : j < k
        · have hy := HIT.out j i hlt
          have hcell := HC.out _ hy wr (HB1.out.trans (HBW.out.mono (by omega)))
          go_wp2
          go_roundw
          case rel => exact ⟨j + 1, by omega, by go_num, rfl, by first | rfl | trivial⟩
          case measure => simp [intOf]; omega
        · obtain rfl : k = j := by omega
          have hy0 := HIT.out k i hlt
          go_wp2_with (at_builtin; refine wpList_append_own _ rfl _ _ 22 rfl w1.heap.size 3 i0 (.int .i64 0) 1 8 Try.underlying22 hi iz0 iz1 iz2 rfl (by decide) _ _ _ rfl (World.ownsRow.alloc HR.out _) ⟨wr.heap.size, 0, none⟩ 1 1 [.int .i64 (itn t k i : Int)] rfl rfl ?c1 ?c2 ?c3 ?c4 ?c5 ?_)
          case c1 => exact cell_one_new _ _ _
          case c2 => intro u hu; simp at hu; subst hu; rfl
          case c3 => have := HL.out; unfold maxLen; omega
          case c4 => have := HL.out; omega
          case c5 => simp; omega
          intro v' w3 hown hgrow _
          have HR3 := Lib.hid (Row.of (l := fl (fun x => (itn t k x : Int)) i ++ [(itn t k i : Int)]) hown (by rw [List.length_append]; rfl) (by simp))
          have hb : Below w1.heap.size w1 (wr.alloc (.cells #[.int .i64 (itn t k i : Int)] 3)) := by have hb1 := HBW.out; (repeat' (first | (with_reducible assumption) | (with_reducible exact Below.refl _ _) | (with_reducible refine below_drewN ?_ _) | (with_reducible refine Below.drew ?_) | (with_reducible refine Below.alloc ?_ ?_ _) | (with_reducible refine Below.setCell ?_ ?_ _) | (with_reducible refine Below.trans ?_ (Below.mono (by assumption) ?_)) | (with_reducible exact Nat.le_refl _) | (with_reducible assumption) | omega | (simp; omega) | (simp; done)))
          have HB3 := Lib.hid (hb.grown hgrow (by simp; omega) (fun g hg => (HR.out.lt g hg).1))
          clear hown hgrow hb
          go_wp2
          go_roundw
          case rel => exact ⟨i + 1, by omega, by go_num, by rw [HF.out]; exact HR3.out, HB3.out⟩
          case measure => simp [intOf]; omega
    · obtain rfl : n = i := by omega
      go_wp2
      go_ret2
      exact ⟨_, rfl, HR.out.mono hz_hb1, HB1.out.trans (HBW.out.mono hz_hb1)⟩

theorem spec_IterateTable_no1 (q k : Int) (v : Value) (l : List Int) (w : World) (hv : Sl w v l) (hl : l.length ≤ 1048576) (h : (isSz q && tabl q l) = false) :
    Calls Try.prog 35 #[.int .i64 q, v, .int .i64 k] w fun e w' => e = .returned (.tuple #[.slice none 0 0, .bool false]) ∧ Below w.heap.size w w' := by
  have hp := plTable_any q v l w hv hl
  rw [h] at hp
  have HP := Lib.hid hp
  clear hp h hv hl
  go_enter Try.func35, Try.ntmps35
  go_wp2_with fail
  refine HP.out.mono ?_
  rintro e w1 ⟨rfl, hb1⟩
  go_wp2
  go_ret2
  exact ⟨rfl, hb1⟩
theorem spec_IterateTable_no2 (q k : Int) (v : Value) (l : List Int) (w : World) (hv : Sl w v l) (hl : l.length ≤ 1048576) (h : (isSz q && tabl q l) = true) (hk : (decide (0 ≤ k) && decide (k ≤ 1000)) = false) :
    Calls Try.prog 35 #[.int .i64 q, v, .int .i64 k] w fun e w' => e = .returned (.tuple #[.slice none 0 0, .bool false]) ∧ Below w.heap.size w w' := by
  have hp := plTable_any q v l w hv hl
  rw [h] at hp
  have HP := Lib.hid hp
  have HK := Lib.hid hk
  clear hp h hv hl hk
  go_enter Try.func35, Try.ntmps35
  go_wp2_with fail
  refine HP.out.mono ?_
  rintro e w1 ⟨rfl, hb1⟩
  go_wp2_with fail
  refine (l1In_any _ _ _ _).mono ?_
  rintro e w2 ⟨rfl, rfl⟩
  rw [HK.out]
  go_wp2
  go_ret2
  exact ⟨rfl, hb1⟩
theorem impl_IterateTable_no1 (q k : Int) (v : Value) (w : World) (h : isSz q = false) :
    Calls Try.prog 36 #[.int .i64 q, v, .int .i64 k] w fun e w' => e = .returned (.tuple #[.slice none 0 0, .bool false]) ∧ Below w.heap.size w w' := by
  have HF := Lib.hid (fun w => fieldOf_no q w h)
  clear h
  go_enter Try.func36, Try.ntmps36
  go_wp2_with fail
  refine (HF.out _).mono ?_
  rintro e w1 ⟨rfl, hb1⟩
  have hz_hb1 := hb1.size; (try simp at hz_hb1)
  have HB1 := Lib.hid hb1; clear hb1
  go_wp2_with fail
  go_ret2
  have hb1 := HB1.out
  exact ⟨rfl, by (repeat' (first | (with_reducible assumption) | (with_reducible exact Below.refl _ _) | (with_reducible refine below_drewN ?_ _) | (with_reducible refine Below.drew ?_) | (with_reducible refine Below.alloc ?_ ?_ _) | (with_reducible refine Below.setCell ?_ ?_ _) | (with_reducible refine Below.trans ?_ (Below.mono (by assumption) ?_)) | (with_reducible exact Nat.le_refl _) | (with_reducible assumption) | omega | (simp; omega) | (simp; done)))⟩
theorem impl_IterateTable_no2 (q k : Int) (v : Value) (l : List Int) (w : World) (hv : Sl w v l) (hl : l.length ≤ 1048576) (h : isSz q = true) (ht : tabl q l = false) :
    Calls Try.prog 36 #[.int .i64 q, v, .int .i64 k] w fun e w' => e = .returned (.tuple #[.slice none 0 0, .bool false]) ∧ Below w.heap.size w w' := by
  have HF := Lib.hid (fun w => fieldOf_yes q w h)
  have HP := Lib.hid (fun w' (hbb : Below w.heap.size w w') => by have := isTable_any q _ l w' (hv.below hbb (Nat.le_refl _)) hl; rw [ht] at this; exact this)
  clear h ht hv hl
  go_enter Try.func36, Try.ntmps36
  go_wp2_with fail
  refine (HF.out _).mono ?_
  rintro e w1 ⟨rfl, hb1⟩
  have hz_hb1 := hb1.size; (try simp at hz_hb1)
  have HB1 := Lib.hid hb1; clear hb1
  go_wp2_with fail
  refine (HP.out _ (by have hb1 := HB1.out; (repeat' (first | (with_reducible assumption) | (with_reducible exact Below.refl _ _) | (with_reducible refine below_drewN ?_ _) | (with_reducible refine Below.drew ?_) | (with_reducible refine Below.alloc ?_ ?_ _) | (with_reducible refine Below.setCell ?_ ?_ _) | (with_reducible refine Below.trans ?_ (Below.mono (by assumption) ?_)) | (with_reducible exact Nat.le_refl _) | (with_reducible assumption) | omega | (simp; omega) | (simp; done))))).mono ?_
  rintro e w2 ⟨rfl, hb2⟩
  have hz_hb2 := hb2.size; (try simp at hz_hb2)
  have HB2 := Lib.hid hb2; clear hb2
  go_wp2_with fail
  go_ret2
  have hb1 := HB1.out
  have hb2 := HB2.out
  exact ⟨rfl, by (repeat' (first | (with_reducible assumption) | (with_reducible exact Below.refl _ _) | (with_reducible refine below_drewN ?_ _) | (with_reducible refine Below.drew ?_) | (with_reducible refine Below.alloc ?_ ?_ _) | (with_reducible refine Below.setCell ?_ ?_ _) | (with_reducible refine Below.trans ?_ (Below.mono (by assumption) ?_)) | (with_reducible exact Nat.le_refl _) | (with_reducible assumption) | omega | (simp; omega) | (simp; done)))⟩
theorem impl_IterateTable_no3 (q k : Int) (v : Value) (l : List Int) (w : World) (hv : Sl w v l) (hl : l.length ≤ 1048576) (h : isSz q = true) (ht : tabl q l = true) (hk : k < 0) :
    Calls Try.prog 36 #[.int .i64 q, v, .int .i64 k] w fun e w' => e = .returned (.tuple #[.slice none 0 0, .bool false]) ∧ Below w.heap.size w w' := by
  have HF := Lib.hid (fun w => fieldOf_yes q w h)
  have HP := Lib.hid (fun w' (hbb : Below w.heap.size w w') => by have := isTable_any q _ l w' (hv.below hbb (Nat.le_refl _)) hl; rw [ht] at this; exact this)
  clear h ht hv hl
  go_enter Try.func36, Try.ntmps36
  go_wp2_with fail
  refine (HF.out _).mono ?_
  rintro e w1 ⟨rfl, hb1⟩
  have hz_hb1 := hb1.size; (try simp at hz_hb1)
  have HB1 := Lib.hid hb1; clear hb1
  go_wp2_with fail
  refine (HP.out _ (by have hb1 := HB1.out; (repeat' (first | (with_reducible assumption) | (with_reducible exact Below.refl _ _) | (with_reducible refine below_drewN ?_ _) | (with_reducible refine Below.drew ?_) | (with_reducible refine Below.alloc ?_ ?_ _) | (with_reducible refine Below.setCell ?_ ?_ _) | (with_reducible refine Below.trans ?_ (Below.mono (by assumption) ?_)) | (with_reducible exact Nat.le_refl _) | (with_reducible assumption) | omega | (simp; omega) | (simp; done))))).mono ?_
  rintro e w2 ⟨rfl, hb2⟩
  have hz_hb2 := hb2.size; (try simp at hz_hb2)
  have HB2 := Lib.hid hb2; clear hb2
  go_wp2_with fail
  go_ret2
  have hb1 := HB1.out
  have hb2 := HB2.out
  exact ⟨rfl, by (repeat' (first | (with_reducible assumption) | (with_reducible exact Below.refl _ _) | (with_reducible refine below_drewN ?_ _) | (with_reducible refine Below.drew ?_) | (with_reducible refine Below.alloc ?_ ?_ _) | (with_reducible refine Below.setCell ?_ ?_ _) | (with_reducible refine Below.trans ?_ (Below.mono (by assumption) ?_)) | (with_reducible exact Nat.le_refl _) | (with_reducible assumption) | omega | (simp; omega) | (simp; done)))⟩
theorem impl_IterateTable_no4 (q k : Int) (v : Value) (l : List Int) (w : World) (hv : Sl w v l) (hl : l.length ≤ 1048576) (h : isSz q = true) (ht : tabl q l = true) (hk0 : ¬ k < 0) (hk : 1000 < k) :
    Calls Try.prog 36 #[.int .i64 q, v, .int .i64 k] w fun e w' => e = .returned (.tuple #[.slice none 0 0, .bool false]) ∧ Below w.heap.size w w' := by
  have HF := Lib.hid (fun w => fieldOf_yes q w h)
  have HP := Lib.hid (fun w' (hbb : Below w.heap.size w w') => by have := isTable_any q _ l w' (hv.below hbb (Nat.le_refl _)) hl; rw [ht] at this; exact this)
  clear h ht hv hl
  go_enter Try.func36, Try.ntmps36
  go_wp2_with fail
  refine (HF.out _).mono ?_
  rintro e w1 ⟨rfl, hb1⟩
  have hz_hb1 := hb1.size; (try simp at hz_hb1)
  have HB1 := Lib.hid hb1; clear hb1
  go_wp2_with fail
  refine (HP.out _ (by have hb1 := HB1.out; (repeat' (first | (with_reducible assumption) | (with_reducible exact Below.refl _ _) | (with_reducible refine below_drewN ?_ _) | (with_reducible refine Below.drew ?_) | (with_reducible refine Below.alloc ?_ ?_ _) | (with_reducible refine Below.setCell ?_ ?_ _) | (with_reducible refine Below.trans ?_ (Below.mono (by assumption) ?_)) | (with_reducible exact Nat.le_refl _) | (with_reducible assumption) | omega | (simp; omega) | (simp; done))))).mono ?_
  rintro e w2 ⟨rfl, hb2⟩
  have hz_hb2 := hb2.size; (try simp at hz_hb2)
  have HB2 := Lib.hid hb2; clear hb2
  go_wp2_with fail
  go_ret2
  have hb1 := HB1.out
  have hb2 := HB2.out
  exact ⟨rfl, by (repeat' (first | (with_reducible assumption) | (with_reducible exact Below.refl _ _) | (with_reducible refine below_drewN ?_ _) | (with_reducible refine Below.drew ?_) | (with_reducible refine Below.alloc ?_ ?_ _) | (with_reducible refine Below.setCell ?_ ?_ _) | (with_reducible refine Below.trans ?_ (Below.mono (by assumption) ?_)) | (with_reducible exact Nat.le_refl _) | (with_reducible assumption) | omega | (simp; omega) | (simp; done)))⟩

/-- impl.listOf at the function that gives back what it is given. -/
theorem listOf_id (n : Nat) (w : World) (hn : n ≤ 1000) :
    Calls Try.prog 66 #[.int .i64 n, .func (.func 67) #[] #[]] w fun e w' => ∃ cap, e = .returned (.slice (some ⟨w.heap.size, 0, none⟩) n cap) ∧ Row w' w.heap.size (.slice (some ⟨w.heap.size, 0, none⟩) n cap) (fl (fun x => (x : Int)) n) ∧ Below w.heap.size w w' := by
  obtain ⟨i0, hi, iz0, iz1, iz2⟩ := info_parts Try.infoI
  go_enter Try.func66, Try.ntmps66
  go_wp2_with (at_make; refine wpList_make_full _ rfl _ _ 22 rfl w.heap.size 3 i0 (.int .i64 0) 1 Try.underlying22 hi iz0 iz1 .i64 .i64 _ _ n rfl rfl rfl rfl ?c3 ?c4 ?c5 ?_)
  case c3 => rw [iz2]; omega
  case c4 => unfold maxLen; omega
  case c5 => omega
  intro w1 hown hgrow
  have HR := Lib.hid (Row.madeF (fun x => (x : Int)) hown)
  have HB := Lib.hid ((Below.refl w.heap.size w).grown hgrow (Nat.le_refl _) (fun k hk => by cases hk))
  clear hown hgrow
  go_wp2_with fail
  go_loopw [11] (fun vi wr => ∃ i : Nat, i ≤ n ∧ vi = .int .i64 i ∧ Row wr w.heap.size (.slice (some ⟨w.heap.size, 0, none⟩) n n) (fl (part0 (fun x => (x : Int)) i) n) ∧ Below w.heap.size w wr) (fun vi _ => n - (intOf vi).toNat)
  case atStart => exact ⟨0, Nat.zero_le _, rfl, HR.out, HB.out⟩
  case round =>
    obtain ⟨i, hi, rfl, hr, hbel⟩ := hrel
    by_cases hlt : i < n
    · have e2 := Row.cell (l := fl (part0 (fun x => (x : Int)) i) n) (cap := n) (by rw [fl_len]; exact hr) i (by rw [fl_len]; exact hlt)
      have f2 := hr.frozen (by rw [fl_len]) i
      have HR' := Lib.hid (hr.store (by rw [fl_len]) i (i : Int))
      have HB' := Lib.hid hbel
      clear hr hbel
      generalize (fl (part0 (fun x => (x : Int)) i) n).getD i 0 = u at *
      have HS := Lib.hid (part0_step (fun x => (x : Int)) i)
      go_wp2_with go_in
      go_roundw
      case rel =>
        refine ⟨i + 1, by omega, by go_num, ?_, HB'.out.setCell (Nat.le_refl _) _⟩
        rw [← HS.out, ← fl_set]
        exact HR'.out
      case measure => simp [intOf]; omega
    · obtain rfl : n = i := by omega
      go_wp2
      go_ret
      refine ⟨_, rfl, ?_, hbel⟩
      rw [← part0_all]
      exact hr
/-- The first x entries one step further. -/
def itp (t : Nat → Nat) (k x : Nat) : Nat → Int := fun j => if j < x then (itn t (k + 1) j : Int) else (itn t k j : Int)
theorem itp_step (t : Nat → Nat) (k x : Nat) : upd (itp t k x) x (t (itn t k x) : Int) = itp t k (x + 1) := by
  funext j
  unfold upd itp
  by_cases e : j = x
  · subst e; simp [itn]
  · rw [if_neg e]
    by_cases h : j < x
    · rw [if_pos h, if_pos (by omega)]
    · rw [if_neg h, if_neg (by omega)]
theorem itp_zero (t : Nat → Nat) (k n : Nat) : fl (itp t k 0) n = fl (fun x => (itn t k x : Int)) n := fl_congr fun i _ => by simp [itp]
theorem itp_all (t : Nat → Nat) (k n : Nat) : fl (itp t k n) n = fl (fun x => (itn t (k + 1) x : Int)) n := fl_congr fun i hi => by simp [itp, hi]
theorem itp_at (t : Nat → Nat) (k x : Nat) : itp t k x x = (itn t k x : Int) := by simp [itp]
set_option maxHeartbeats 2000000 in
theorem impl_IterateTable_yes (q : Int) (v : Value) (l : List Int) (k : Nat) (w : World) (hv : Sl w v l) (h : isSz q = true) (ht : tabl q l = true) (t : Nat → Nat) (htt : ∀ x, x < l.length → t x < l.length) (hte : ∀ x, x < l.length → l.getD x 0 = (t x : Int)) (k1 : k ≤ 1000) :
    Calls Try.prog 36 #[.int .i64 q, v, .int .i64 k] w fun e w' => ∃ v', e = .returned (.tuple #[v', .bool true]) ∧ Row w' w.heap.size v' (fl (fun x => (itn t k x : Int)) l.length) ∧ Below w.heap.size w w' := by
  have hq := isSz_le q h
  have hlen := (tabl_nat ht).1
  have HF := Lib.hid (fun w => fieldOf_yes q w h)
  obtain ⟨b, off, cap, rfl, hb, hc⟩ := hv.open rfl (by omega)
  have HP := Lib.hid (fun w' (hbb : Below w.heap.size w w') => by have := isTable_any q _ l w' (hv.below hbb (Nat.le_refl _)) (by omega); rw [ht] at this; exact this)
  have HC : Hid (∀ x, x < l.length → ∀ w', Below w.heap.size w w' → w'.cell? ⟨b, off + x, none⟩ = some (.int .i64 (t x : Int))) := Lib.hid (fun x hx w' hbb => by rw [← hte x hx]; exact (hbb.cell (p := ⟨b, off + x, none⟩) hb).trans (hc x hx))
  have HIT := Lib.hid (itn_lt t l.length htt)
  clear hc hv ht hte htt h
  subst hlen
  have HLO := Lib.hid (fun w => listOf_id l.length w (by omega))
  generalize l.length = n at *
  have hk0 : ¬ (k : Int) < 0 := by omega
  have hk1 : ¬ (1000 : Int) < (k : Int) := by omega
  go_enter Try.func36, Try.ntmps36
  go_wp2_with fail
  refine (HF.out _).mono ?_
  rintro e w1 ⟨rfl, hb1⟩
  have hz_hb1 := hb1.size; (try simp at hz_hb1)
  have HB1 := Lib.hid hb1; clear hb1
  go_wp2_with fail
  refine (HP.out _ (by have hb1 := HB1.out; (repeat' (first | (with_reducible assumption) | (with_reducible exact Below.refl _ _) | (with_reducible refine below_drewN ?_ _) | (with_reducible refine Below.drew ?_) | (with_reducible refine Below.alloc ?_ ?_ _) | (with_reducible refine Below.setCell ?_ ?_ _) | (with_reducible refine Below.trans ?_ (Below.mono (by assumption) ?_)) | (with_reducible exact Nat.le_refl _) | (with_reducible assumption) | omega | (simp; omega) | (simp; done))))).mono ?_
  rintro e w2 ⟨rfl, hb2⟩
  have hz_hb2 := hb2.size; (try simp at hz_hb2)
  have HB2 : Hid (Below w.heap.size w w2) := Lib.hid (by have hb1 := HB1.out; (repeat' (first | (with_reducible assumption) | (with_reducible exact Below.refl _ _) | (with_reducible refine below_drewN ?_ _) | (with_reducible refine Below.drew ?_) | (with_reducible refine Below.alloc ?_ ?_ _) | (with_reducible refine Below.setCell ?_ ?_ _) | (with_reducible refine Below.trans ?_ (Below.mono (by assumption) ?_)) | (with_reducible exact Nat.le_refl _) | (with_reducible assumption) | omega | (simp; omega) | (simp; done))))
  clear hb2
  go_wp2_with fail
  refine (HLO.out _).mono ?_
  rintro e w3 ⟨cp, rfl, hr3, hb3⟩
  have hz_hb3 := hb3.size; (try simp at hz_hb3)
  have HR3 := Lib.hid hr3; clear hr3
  have HB3 : Hid (Below w.heap.size w w3) := Lib.hid (HB2.out.trans (hb3.mono (by omega)))
  clear hb3
  have hw2 : w.heap.size ≤ w2.heap.size := HB2.out.size
  generalize w2.heap.size = g at *
  go_wp2_with fail
  go_loopw [37] (fun vi wr => ∃ i : Nat, i ≤ k ∧ vi = .int .i64 i ∧ Row wr g (.slice (some ⟨g, 0, none⟩) n cp) (fl (fun x => (itn t i x : Int)) n) ∧ Below w.heap.size w wr) (fun vi _ => k - (intOf vi).toNat)
  case atStart => exact ⟨0, Nat.zero_le _, rfl, HR3.out, HB3.out⟩
  case round =>
    obtain ⟨i, hik, rfl, hr, hbw⟩ := hrel
    have HR := Lib.hid hr; clear hr
    have HBW := Lib.hid hbw; clear hbw
    by_cases hlt : i < k
    · go_wp2_with fail
      go_loopw [41] (fun vx ws => ∃ x : Nat, x ≤ n ∧ vx = .int .i64 x ∧ Row ws g (.slice (some ⟨g, 0, none⟩) n cp) (fl (itp t i x) n) ∧ Below w.heap.size w ws) (fun vx _ => n - (intOf vx).toNat)
      case atStart => exact ⟨0, Nat.zero_le _, rfl, by rw [itp_zero]; exact HR.out, HBW.out⟩
      case round =>
        obtain ⟨x, hxn, rfl, hrx, hbx⟩ := hrel
        by_cases hlt2 : x < n
        · have e2 := Row.cell (l := fl (itp t i x) n) (cap := cp) (by rw [fl_len]; exact hrx) x (by rw [fl_len]; exact hlt2)
          rw [fl_get _ _ _ hlt2, itp_at] at e2
          have f2 := hrx.frozen (by rw [fl_len]) x
          have hy := HIT.out i x hlt2
          have hcell := HC.out _ hy _ hbx
          have HR' := Lib.hid (hrx.store (by rw [fl_len]) x (t (itn t i x) : Int))
          have HB' := Lib.hid hbx
          have HS := Lib.hid (itp_step t i x)
          clear hrx hbx
          generalize itn t i x = y at *
          go_wp2
          go_roundw
          case rel =>
            refine ⟨x + 1, by omega, by go_num, ?_, HB'.out.setCell (by omega) _⟩
            rw [← HS.out, ← fl_set]
            exact HR'.out
          case measure => simp [intOf]; omega
        · obtain rfl : n = x := by omega
          rw [itp_all] at hrx
          have HR' := Lib.hid hrx
          have HB' := Lib.hid hbx
          clear hrx hbx
          go_wp2
          go_roundw
          case rel => exact ⟨i + 1, by omega, by go_num, HR'.out, HB'.out⟩
          case measure => simp [intOf]; omega
    · obtain rfl : k = i := by omega
      go_wp2
      go_ret2
      exact ⟨_, rfl, HR.out.mono (by omega), HBW.out⟩

theorem key_IterateTable (q : Int) (l_t : List Int) (b_t : l_t.length ≤ 1048576) (k : Int) : ∃ (r : List Int) (o : Bool), r.length ≤ 1048576 ∧ (∀ (w : World) (v_t : Value) (_ : Sl w v_t l_t), Calls Try.prog 35 #[.int .i64 q, v_t, .int .i64 k] w fun e w' => ∃ v, e = .returned (.tuple #[v, .bool o]) ∧ Row w' w.heap.size v r ∧ Below w.heap.size w w') ∧
      (∀ (w : World) (v_t : Value) (_ : Sl w v_t l_t), Calls Try.prog 36 #[.int .i64 q, v_t, .int .i64 k] w fun e w' => ∃ v, e = .returned (.tuple #[v, .bool o]) ∧ Row w' w.heap.size v r ∧ Below w.heap.size w w') := by
  cases h : isSz q && tabl q l_t with
  | false =>
    refine ⟨[], false, by simp, fun w v hv => (spec_IterateTable_no1 q k v l_t w hv b_t h).mono fun _ _ ⟨he, hb⟩ => ⟨_, he, Row.nil _ _, hb⟩, fun w v hv => ?_⟩
    cases hs : isSz q with
    | false => exact (impl_IterateTable_no1 q k v w hs).mono fun _ _ ⟨he, hb⟩ => ⟨_, he, Row.nil _ _, hb⟩
    | true =>
      have ht : tabl q l_t = false := by rw [hs] at h; exact h
      exact (impl_IterateTable_no2 q k v l_t w hv b_t hs ht).mono fun _ _ ⟨he, hb⟩ => ⟨_, he, Row.nil _ _, hb⟩
  | true =>
    have h' := h
    simp only [Bool.and_eq_true] at h'
    obtain ⟨hs, ht⟩ := h'
    by_cases k0 : k < 0
    · exact ⟨[], false, by simp, fun w v hv => (spec_IterateTable_no2 q k v l_t w hv b_t h (by simp; omega)).mono fun _ _ ⟨he, hb⟩ => ⟨_, he, Row.nil _ _, hb⟩, fun w v hv => (impl_IterateTable_no3 q k v l_t w hv b_t hs ht k0).mono fun _ _ ⟨he, hb⟩ => ⟨_, he, Row.nil _ _, hb⟩⟩
    · by_cases k1 : 1000 < k
      · exact ⟨[], false, by simp, fun w v hv => (spec_IterateTable_no2 q k v l_t w hv b_t h (by simp; omega)).mono fun _ _ ⟨he, hb⟩ => ⟨_, he, Row.nil _ _, hb⟩, fun w v hv => (impl_IterateTable_no4 q k v l_t w hv b_t hs ht k0 k1).mono fun _ _ ⟨he, hb⟩ => ⟨_, he, Row.nil _ _, hb⟩⟩
      · obtain ⟨k', rfl⟩ := Int.eq_ofNat_of_zero_le (show 0 ≤ k by omega)
        obtain ⟨_, t, htt, hte⟩ := tabl_nat ht
        exact ⟨_, true, by rw [fl_len]; exact b_t, fun w v hv => spec_IterateTable_yes q v l_t k' w hv hs ht t htt hte (by omega), fun w v hv => impl_IterateTable_yes q v l_t k' w hv hs ht t htt hte (by omega)⟩
set_option maxRecDepth 100000 in
set_option maxHeartbeats 4000000 in
/-- laws.FnExactIterateTable. -/
theorem walk_FnExactIterateTable (q : Int) (a_t : Option Addr) (n_t c_t : Nat) (z_t : List Int) (k : Int) (w : World) (_h_q : (Lit.int .i64 q).wf = true) (h_t : IsRow .i64 w a_t n_t c_t z_t) (_h_k : (Lit.int .i64 k).wf = true) :
    Calls Try.prog 12 #[.int .i64 q, .slice a_t n_t c_t, .int .i64 k] w fun e w' => e = .returned (.bool true) ∧ Below w.heap.size w w' := by
  clear _h_q
  clear _h_k
  obtain ⟨hs_t, hl_t, _⟩ := h_t.sl
  generalize z_t.take n_t = l_t at *
  clear h_t
  subst hl_t
  by_cases b_t : l_t.length ≤ 1048576
  rotate_left
  · have hn_t : (1048576 : Int) < (l_t.length : Int) := by omega
    go_enter Try.func12, Try.ntmps12
    go_wp2
    go_ret
    exact ⟨rfl, Below.refl _ _⟩
  have hn_t : ¬ (1048576 : Int) < (l_t.length : Int) := by omega
  obtain ⟨r, o, hr, k1, k2⟩ := key_IterateTable q l_t b_t k
  have K1 := Lib.hid k1; clear k1
  have K2 := Lib.hid k2; clear k2
  have HS_t := Lib.hid hs_t; clear hs_t
  have HB0 : Hid (Below w.heap.size w w) := Lib.hid (Below.refl _ _)
  go_enter Try.func12, Try.ntmps12
  go_wp2_with fail
  refine (toIntS_any _ l_t _ (HS_t.out.below HB0.out (Nat.le_refl _)) b_t).mono ?_
  rintro e w1 ⟨v_s_t, rfl, hrw1, hbw1⟩
  have hzw1 : w.heap.size ≤ w1.heap.size := hbw1.size
  have HBw1 : Hid (Below w.heap.size w w1) := Lib.hid (HB0.out.trans (hbw1.mono HB0.out.size))
  have hww1 := HBw1.out.size
  clear hbw1 HB0
  have R_s_t_w1 := Lib.hid hrw1; clear hrw1
  have lt_s_t : Hid (∀ g, v_s_t.ownBlock = some g → w.heap.size ≤ g ∧ g < w1.heap.size) := Lib.hid R_s_t_w1.out.lt
  go_wp2_with fail
  refine (K1.out _ v_s_t R_s_t_w1.out.sl).mono ?_
  rintro e w2 ⟨v_sp, rfl, hrw2, hbw2⟩
  have hzw2 : w1.heap.size ≤ w2.heap.size := hbw2.size
  have R_s_t_w2 := Lib.hid (R_s_t_w1.out.below hbw2)
  clear R_s_t_w1
  have HBw2 : Hid (Below w.heap.size w w2) := Lib.hid (HBw1.out.trans (hbw2.mono HBw1.out.size))
  have hww2 := HBw2.out.size
  clear hbw2 HBw1
  have R_sp_w2 := Lib.hid hrw2; clear hrw2
  have lt_sp : Hid (∀ g, v_sp.ownBlock = some g → w1.heap.size ≤ g ∧ g < w2.heap.size) := Lib.hid R_sp_w2.out.lt
  clear R_s_t_w2 lt_s_t
  go_wp2_with fail
  refine (toIntS_any _ l_t _ (HS_t.out.below HBw2.out (Nat.le_refl _)) b_t).mono ?_
  rintro e w3 ⟨v_x_t, rfl, hrw3, hbw3⟩
  have hzw3 : w2.heap.size ≤ w3.heap.size := hbw3.size
  have R_sp_w3 := Lib.hid (R_sp_w2.out.below hbw3)
  clear R_sp_w2
  have HBw3 : Hid (Below w.heap.size w w3) := Lib.hid (HBw2.out.trans (hbw3.mono HBw2.out.size))
  have hww3 := HBw3.out.size
  clear hbw3 HBw2
  have R_x_t_w3 := Lib.hid hrw3; clear hrw3
  have lt_x_t : Hid (∀ g, v_x_t.ownBlock = some g → w2.heap.size ≤ g ∧ g < w3.heap.size) := Lib.hid R_x_t_w3.out.lt
  go_wp2_with fail
  refine (K2.out _ v_x_t R_x_t_w3.out.sl).mono ?_
  rintro e w4 ⟨v_im, rfl, hrw4, hbw4⟩
  have hzw4 : w3.heap.size ≤ w4.heap.size := hbw4.size
  have R_sp_w4 := Lib.hid (R_sp_w3.out.below hbw4)
  clear R_sp_w3
  have R_x_t_w4 := Lib.hid (R_x_t_w3.out.below hbw4)
  clear R_x_t_w3
  have HBw4 : Hid (Below w.heap.size w w4) := Lib.hid (HBw3.out.trans (hbw4.mono HBw3.out.size))
  have hww4 := HBw4.out.size
  clear hbw4 HBw3
  have R_im_w4 := Lib.hid hrw4; clear hrw4
  have lt_im : Hid (∀ g, v_im.ownBlock = some g → w3.heap.size ≤ g ∧ g < w4.heap.size) := Lib.hid R_im_w4.out.lt
  go_wp2_with fail
  refine (eq_same v_im v_sp r _ _ _ R_im_w4.out R_sp_w4.out (by omega)).mono ?_
  rintro e w5 ⟨rfl, hbw5⟩
  have hzw5 : w4.heap.size ≤ w5.heap.size := hbw5.size
  have R_sp_w5 := Lib.hid (R_sp_w4.out.below hbw5)
  clear R_sp_w4
  have R_x_t_w5 := Lib.hid (R_x_t_w4.out.below hbw5)
  clear R_x_t_w4
  have R_im_w5 := Lib.hid (R_im_w4.out.below hbw5)
  clear R_im_w4
  have HBw5 : Hid (Below w.heap.size w w5) := Lib.hid (HBw4.out.trans (hbw5.mono HBw4.out.size))
  have hww5 := HBw5.out.size
  clear hbw5 HBw4
  go_wp2_with fail
  refine (toIntS_any _ l_t _ (HS_t.out.below HBw5.out (Nat.le_refl _)) b_t).mono ?_
  rintro e w6 ⟨v_y_t, rfl, hrw6, hbw6⟩
  have hzw6 : w5.heap.size ≤ w6.heap.size := hbw6.size
  have R_sp_w6 := Lib.hid (R_sp_w5.out.below hbw6)
  clear R_sp_w5
  have R_x_t_w6 := Lib.hid (R_x_t_w5.out.below hbw6)
  clear R_x_t_w5
  have R_im_w6 := Lib.hid (R_im_w5.out.below hbw6)
  clear R_im_w5
  have HBw6 : Hid (Below w.heap.size w w6) := Lib.hid (HBw5.out.trans (hbw6.mono HBw5.out.size))
  have hww6 := HBw6.out.size
  clear hbw6 HBw5
  have R_y_t_w6 := Lib.hid hrw6; clear hrw6
  have lt_y_t : Hid (∀ g, v_y_t.ownBlock = some g → w5.heap.size ≤ g ∧ g < w6.heap.size) := Lib.hid R_y_t_w6.out.lt
  go_wp2_with fail
  refine (eq_same v_x_t v_y_t l_t _ _ _ R_x_t_w6.out R_y_t_w6.out (by omega)).mono ?_
  rintro e w7 ⟨rfl, hbw7⟩
  have hzw7 : w6.heap.size ≤ w7.heap.size := hbw7.size
  have R_sp_w7 := Lib.hid (R_sp_w6.out.below hbw7)
  clear R_sp_w6
  have R_x_t_w7 := Lib.hid (R_x_t_w6.out.below hbw7)
  clear R_x_t_w6
  have R_im_w7 := Lib.hid (R_im_w6.out.below hbw7)
  clear R_im_w6
  have R_y_t_w7 := Lib.hid (R_y_t_w6.out.below hbw7)
  clear R_y_t_w6
  have HBw7 : Hid (Below w.heap.size w w7) := Lib.hid (HBw6.out.trans (hbw7.mono HBw6.out.size))
  have hww7 := HBw7.out.size
  clear hbw7 HBw6
  clear R_y_t_w7 lt_y_t
  go_wp2_with fail
  refine (mark_any v_x_t l_t _ (1) _ R_x_t_w7.out (by omega) (by omega) (by omega)).mono ?_
  rintro e w8 ⟨rfl, hrw8, hgw8⟩
  have hzw8 : w7.heap.size ≤ w8.heap.size := hgw8.size
  have R_sp_w8 := Lib.hid (R_sp_w7.out.keep (w' := w8) fun g hg => hgw8.block g (R_sp_w7.out.lt g hg).2 fun e => by have h1 := lt_sp.out g hg; have h2 := lt_x_t.out g e.symm; omega)
  clear R_sp_w7
  have R_im_w8 := Lib.hid (R_im_w7.out.keep (w' := w8) fun g hg => hgw8.block g (R_im_w7.out.lt g hg).2 fun e => by have h1 := lt_im.out g hg; have h2 := lt_x_t.out g e.symm; omega)
  clear R_im_w7
  have HBw8 : Hid (Below w.heap.size w w8) := Lib.hid (Below.grown HBw7.out hgw8 (by omega) (fun g e => by have h2 := lt_x_t.out g e; omega))
  have hww8 := HBw8.out.size
  have R_x_t_w8 := Lib.hid hrw8
  clear hrw8 hgw8 HBw7 R_x_t_w7
  clear R_x_t_w8 lt_x_t
  have hpos : ¬ (1 + (l_t.length : Int)) < (0 : Int) := by omega
  go_wp2_with fail
  refine (eq_same v_im v_sp r _ _ _ R_im_w8.out R_sp_w8.out (by omega)).mono ?_
  rintro e w9 ⟨rfl, hbw9⟩
  have hzw9 : w8.heap.size ≤ w9.heap.size := hbw9.size
  have R_sp_w9 := Lib.hid (R_sp_w8.out.below hbw9)
  clear R_sp_w8
  have R_im_w9 := Lib.hid (R_im_w8.out.below hbw9)
  clear R_im_w8
  have HBw9 : Hid (Below w.heap.size w w9) := Lib.hid (HBw8.out.trans (hbw9.mono HBw8.out.size))
  have hww9 := HBw9.out.size
  clear hbw9 HBw8
  go_wp2_with fail
  refine (mark_any v_im r _ (1) _ R_im_w9.out (by omega) (by omega) (by omega)).mono ?_
  rintro e w10 ⟨rfl, hrw10, hgw10⟩
  have hzw10 : w9.heap.size ≤ w10.heap.size := hgw10.size
  have R_sp_w10 := Lib.hid (R_sp_w9.out.keep (w' := w10) fun g hg => hgw10.block g (R_sp_w9.out.lt g hg).2 fun e => by have h1 := lt_sp.out g hg; have h2 := lt_im.out g e.symm; omega)
  clear R_sp_w9
  have HBw10 : Hid (Below w.heap.size w w10) := Lib.hid (Below.grown HBw9.out hgw10 (by omega) (fun g e => by have h2 := lt_im.out g e; omega))
  have hww10 := HBw10.out.size
  have R_im_w10 := Lib.hid hrw10
  clear hrw10 hgw10 HBw9 R_im_w9
  go_wp2_with fail
  refine (held_any v_im r.length _ (1) _ R_im_w10.out (by omega) (by omega) (by omega)).mono ?_
  rintro e wx1 ⟨rfl, rfl⟩
  go_wp2_with fail
  refine (toIntS_any _ l_t _ (HS_t.out.below HBw10.out (Nat.le_refl _)) b_t).mono ?_
  rintro e w11 ⟨v_t_t, rfl, hrw11, hbw11⟩
  have hzw11 : w10.heap.size ≤ w11.heap.size := hbw11.size
  have R_sp_w11 := Lib.hid (R_sp_w10.out.below hbw11)
  clear R_sp_w10
  have R_im_w11 := Lib.hid (R_im_w10.out.below hbw11)
  clear R_im_w10
  have HBw11 : Hid (Below w.heap.size w w11) := Lib.hid (HBw10.out.trans (hbw11.mono HBw10.out.size))
  have hww11 := HBw11.out.size
  clear hbw11 HBw10
  have R_t_t_w11 := Lib.hid hrw11; clear hrw11
  have lt_t_t : Hid (∀ g, v_t_t.ownBlock = some g → w10.heap.size ≤ g ∧ g < w11.heap.size) := Lib.hid R_t_t_w11.out.lt
  go_wp2_with fail
  refine (K2.out _ v_t_t R_t_t_w11.out.sl).mono ?_
  rintro e w12 ⟨v_im2, rfl, hrw12, hbw12⟩
  have hzw12 : w11.heap.size ≤ w12.heap.size := hbw12.size
  have R_sp_w12 := Lib.hid (R_sp_w11.out.below hbw12)
  clear R_sp_w11
  have R_im_w12 := Lib.hid (R_im_w11.out.below hbw12)
  clear R_im_w11
  have R_t_t_w12 := Lib.hid (R_t_t_w11.out.below hbw12)
  clear R_t_t_w11
  have HBw12 : Hid (Below w.heap.size w w12) := Lib.hid (HBw11.out.trans (hbw12.mono HBw11.out.size))
  have hww12 := HBw12.out.size
  clear hbw12 HBw11
  have R_im2_w12 := Lib.hid hrw12; clear hrw12
  have lt_im2 : Hid (∀ g, v_im2.ownBlock = some g → w11.heap.size ≤ g ∧ g < w12.heap.size) := Lib.hid R_im2_w12.out.lt
  clear R_t_t_w12 lt_t_t
  go_wp2_with fail
  refine (eq_same v_im2 v_sp r _ _ _ R_im2_w12.out R_sp_w12.out (by omega)).mono ?_
  rintro e w13 ⟨rfl, hbw13⟩
  have hzw13 : w12.heap.size ≤ w13.heap.size := hbw13.size
  have R_sp_w13 := Lib.hid (R_sp_w12.out.below hbw13)
  clear R_sp_w12
  have R_im_w13 := Lib.hid (R_im_w12.out.below hbw13)
  clear R_im_w12
  have R_im2_w13 := Lib.hid (R_im2_w12.out.below hbw13)
  clear R_im2_w12
  have HBw13 : Hid (Below w.heap.size w w13) := Lib.hid (HBw12.out.trans (hbw13.mono HBw12.out.size))
  have hww13 := HBw13.out.size
  clear hbw13 HBw12
  go_wp2_with fail
  refine (held_any v_im r.length _ (1) _ R_im_w13.out (by omega) (by omega) (by omega)).mono ?_
  rintro e wx2 ⟨rfl, rfl⟩
  go_wp2
  go_ret
  exact ⟨rfl, HBw13.out⟩
end Go.Proofs.Ythklnfanbegecaa
