/- Conjugates: plain arithmetic; spec.fdRound and spec.fdTrace by contracts; the model's side of the laws of traces and norms. -/
import Derived.Test.YtapglncgicfjnaaKG
import Derived.Test.YtapglncgicfjnaaKC
import Derived.Test.YtapglncgicfjnaaKE
namespace Go.Proofs.Ytapglncgicfjnaa
open Go.RowKit
/-- The power p^n of an element. -/
def fro (q a : Int) : Nat → Int
  | 0 => a
  | n + 1 => pw q (fro q a n) (pr q).toNat
theorem fro_bd (q a : Int) (h : isSz q = true) (a0 : 0 ≤ a) (a1 : a < q) (n : Nat) : 0 ≤ fro q a n ∧ fro q a n < q := by
  induction n with
  | zero => exact ⟨a0, a1⟩
  | succ n ih => exact pw_bd q _ h ih.1 ih.2 _
/-- The first n of these powers. -/
def frol (q a : Int) (n : Nat) : List Int := (List.range n).map (fro q a)
theorem frol_len (q a : Int) (n : Nat) : (frol q a n).length = n := by simp [frol]
theorem frol_succ (q a : Int) (n : Nat) : frol q a (n + 1) = frol q a n ++ [fro q a n] := by simp [frol, List.range_succ]
theorem frol_get (q a : Int) (n i : Nat) (h : i < n) : (frol q a n).getD i 0 = fro q a i := by simp [frol, List.getD, h]
/-- The sum of the first n of them. -/
def traTo (q a : Int) : Nat → Int
  | 0 => 0
  | n + 1 => addF q (traTo q a n) (fro q a n)
theorem traTo_bd (q a : Int) (h : isSz q = true) (a0 : 0 ≤ a) (a1 : a < q) (n : Nat) : 0 ≤ traTo q a n ∧ traTo q a n < q := by
  have hq := isSz_le q h
  induction n with
  | zero => simp only [traTo]; omega
  | succ n ih =>
    have h2 := fro_bd q a h a0 a1 n
    exact addF_bd q _ _ h ih.1 ih.2 h2.1 h2.2
/-- The product of the first n of them. -/
def norTo (q a : Int) : Nat → Int
  | 0 => 1
  | n + 1 => mulF q (norTo q a n) (fro q a n)
theorem norTo_bd (q a : Int) (h : isSz q = true) (a0 : 0 ≤ a) (a1 : a < q) (n : Nat) : 0 ≤ norTo q a n ∧ norTo q a n < q := by
  have hq := isSz_le q h
  induction n with
  | zero => simp only [norTo]; omega
  | succ n ih =>
    have h2 := fro_bd q a h a0 a1 n
    exact mulF_bd q _ _ h ih.1 ih.2 h2.1 h2.2

set_option maxHeartbeats 1000000 in
/-- spec.fdRound. -/
theorem fdRound_any (q a : Int) (w : World) (h : isSz q = true) (h0 : 0 ≤ a) (h1 : a < q) :
    Calls Try.prog 108 #[.int .i64 q, .int .i64 a] w fun e w' => ∃ v, e = .returned v ∧ Row w' w.heap.size v (frol q a (plN q)) ∧ Below w.heap.size w w' := by
  obtain ⟨i0, hi, hz0, hz1, hz2⟩ := info_parts Try.infoI
  have hp := pr_bd q h
  have hk := plN_bd q h
  have hq := isSz_le q h
  have hc := fdPrime_any q w h
  unfold pl at hc
  have HP := Lib.hid (fun (n : Nat) w => fdPower_any q (fro q a n) (pr q) w h (fro_bd q a h h0 h1 n).1 (fro_bd q a h h0 h1 n).2 (by omega) (by omega))
  have HS := Lib.hid (show ∀ n, fro q a (n + 1) = pw q (fro q a n) (pr q).toNat from fun _ => rfl)
  clear h
  generalize pr q = p at *
  generalize plN q = k at *
  obtain ⟨hp2, hp13⟩ := hp
  obtain ⟨hk1, hk4⟩ := hk
  have HC := Lib.hid hc; clear hc
  go_enter Try.func108, Try.ntmps108
  go_wp2_with (go_at_call 112; refine (HC.out).mono ?_; rintro e w1 ⟨rfl, rfl⟩)
  go_loopw [1, 6, 7] (fun va vk vo wr => ∃ n : Nat, n ≤ k ∧ va = .int .i64 (fro q a n) ∧ vk = .int .i64 ((k : Int) - (n : Int)) ∧ Row wr w.heap.size vo (frol q a n) ∧ Below w.heap.size w wr) (fun _ vk _ _ => (intOf vk).toNat)
  case atStart => exact ⟨0, Nat.zero_le _, rfl, by simp, Row.nil _ _, Below.refl _ _⟩
  case round =>
    obtain ⟨n, hn, rfl, rfl, hrow, hbel⟩ := hrel
    have HR := Lib.hid hrow; clear hrow
    have HB := Lib.hid hbel; clear hbel
    have HS' := Lib.hid (HS.out n)
    have HF := Lib.hid (frol_succ q a n)
    have HL := Lib.hid (frol_len q a n)
    have hsz := HB.out.size
    by_cases hr0 : n < k
    · have HP' := Lib.hid (fun w => HP.out n w)
      generalize fro q a n = x at *
      go_wp2_with (at_builtin; refine wpList_append_own _ rfl _ _ 22 rfl w.heap.size 3 i0 (.int .i64 0) 1 8 Try.underlying22 hi hz0 hz1 hz2 rfl (by decide) _ _ _ rfl (World.ownsRow.alloc HR.out _) ⟨wr.heap.size, 0, none⟩ 1 1 [.int .i64 x] rfl rfl ?c1 ?c2 ?c3 ?c4 ?c5 ?_)
      case c1 => exact cell_one_new _ _ _
      case c2 => intro u hu; simp at hu; subst hu; rfl
      case c3 => have := HL.out; unfold maxLen; omega
      case c4 => have := HL.out; omega
      case c5 => simp; omega
      intro v' w1 hown hgrow _
      have HR1 := Lib.hid (Row.appended hown)
      have HB1 := Lib.hid ((HB.out.alloc hsz (.cells #[.int .i64 x] 3)).grown hgrow (by simp; omega) (fun g hg => (HR.out.lt g hg).1))
      clear hown hgrow
      go_wp2_with fail
      refine (HP'.out _).mono ?_
      rintro e w2 ⟨rfl, hb2⟩
      have HB2 := Lib.hid hb2; clear hb2
      go_wp2
      go_roundw
      case rel =>
        refine ⟨n + 1, by omega, by rw [HS'.out], by go_num, ?_, HB1.out.trans (HB2.out.mono HB1.out.size)⟩
        rw [HF.out]
        exact HR1.out.below HB2.out
      case measure => simp [intOf]; omega
    · obtain rfl : k = n := by omega
      go_wp2
      go_ret
      exact ⟨_, rfl, HR.out, HB.out⟩
/-- A slice that is read: block and cells. -/
theorem Row.open {w : World} {B n : Nat} {v : Value} {l : List Int} (h : Row w B v l) (hn : l.length = n) (hl : 0 < n) : ∃ g cap, v = .slice (some ⟨g, 0, none⟩) n cap ∧ B ≤ g ∧ g < w.heap.size ∧ ∀ i, i < n → w.cell? ⟨g, i, none⟩ = some (.int .i64 (l.getD i 0)) := by
  subst hn
  obtain ⟨g, cap, rfl, h1, h2⟩ := h.form hl
  exact ⟨g, cap, rfl, h1, h2, fun i hi => h.cell i hi⟩

set_option maxHeartbeats 1000000 in
/-- spec.fdTrace. -/
theorem fdTrace_any (q a : Int) (w : World) (h : isSz q = true) (h0 : 0 ≤ a) (h1 : a < q) :
    Calls Try.prog 106 #[.int .i64 q, .int .i64 a] w fun e w' => e = .returned (.int .i64 (traTo q a (plN q))) ∧ Below w.heap.size w w' := by
  have hk := plN_bd q h
  have HR := Lib.hid (fun w => fdRound_any q a w h h0 h1)
  have HA := Lib.hid (fun (n : Nat) w => fdPlus_any q (traTo q a n) (fro q a n) w h (traTo_bd q a h h0 h1 n).1 (traTo_bd q a h h0 h1 n).2 (fro_bd q a h h0 h1 n).1 (fro_bd q a h h0 h1 n).2)
  clear h
  generalize plN q = k at *
  obtain ⟨hk1, hk4⟩ := hk
  go_enter Try.func106, Try.ntmps106
  go_wp2_with fail
  refine (HR.out _).mono ?_
  rintro e w1 ⟨v, rfl, hr, hb1⟩
  have hz_hb1 := hb1.size; (try simp at hz_hb1)
  obtain ⟨g, cap, rfl, hg1, hg2, hcl⟩ := hr.open (frol_len q a k) hk1
  have HCL := Lib.hid hcl; clear hcl hr
  have HB1 := Lib.hid hb1; clear hb1
  go_wp2_with fail
  go_loopw [5, 12] (fun vs vi wr => ∃ n : Nat, n ≤ k ∧ vi = .int .i64 n ∧ vs = .int .i64 (traTo q a n) ∧ Below w1.heap.size w1 wr) (fun _ vi _ => k - (intOf vi).toNat)
  case atStart => exact ⟨0, Nat.zero_le _, rfl, rfl, Below.refl _ _⟩
  case round =>
    obtain ⟨n, hn, rfl, rfl, hb⟩ := hrel
    have HS : Hid (traTo q a (n + 1) = addF q (traTo q a n) (fro q a n)) := Lib.hid rfl
    have HA' := Lib.hid (fun w => HA.out n w)
    by_cases hlt : n < k
    · have hc := (hb.cell (p := ⟨g, n, none⟩) hg2).trans (HCL.out n hlt)
      rw [frol_get _ _ _ _ hlt] at hc
      have HB := Lib.hid hb; clear hb
      generalize fro q a n = x at *
      generalize traTo q a n = s at *
      go_wp2_with fail
      refine (HA'.out _).mono ?_
      rintro e w2 ⟨rfl, hb2⟩
      have HB2 := Lib.hid hb2; clear hb2
      go_wp2
      go_roundw
      case rel => exact ⟨n + 1, by omega, by go_num, by rw [HS.out], HB.out.trans (HB2.out.mono HB.out.size)⟩
      case measure => simp [intOf]; omega
    · obtain rfl : k = n := by omega
      have HB := Lib.hid hb; clear hb
      go_wp2
      go_ret
      exact ⟨rfl, HB1.out.trans (HB.out.mono hz_hb1)⟩
/-- spec.TraceOf. -/
theorem spec_TraceOf_yes (q a : Int) (w : World) (ha : inE q a = true) :
    Calls Try.prog 48 #[.int .i64 q, .int .i64 a] w fun e w' => e = .returned (.tuple #[.int .i64 (traTo q a (plN q)), .bool true]) ∧ Below w.heap.size w w' := by
  have HC := Lib.hid (fun w => fdTrace_any q a w (inE_yes ha).1 (inE_yes ha).2.1 (inE_yes ha).2.2)
  go_enter Try.func48, Try.ntmps48
  go_wp2_with fail
  refine (fdIn_any _ _ _).mono ?_
  rintro e w1 ⟨rfl, hb1⟩
  have hz_hb1 := hb1.size; (try simp at hz_hb1)
  go_wp2_with fail
  refine (HC.out _).mono ?_
  rintro e w3 ⟨rfl, hb3⟩
  have hz_hb3 := hb3.size; (try simp at hz_hb3)
  go_wp2
  go_ret2
  exact ⟨rfl, by (repeat' (first | (with_reducible assumption) | (with_reducible exact Below.refl _ _) | (with_reducible refine below_drewN ?_ _) | (with_reducible refine Below.drew ?_) | (with_reducible refine Below.alloc ?_ ?_ _) | (with_reducible refine Below.setCell ?_ ?_ _) | (with_reducible refine Below.trans ?_ (Below.mono (by assumption) ?_)) | (with_reducible exact Nat.le_refl _) | (with_reducible assumption) | omega | (simp; omega) | (simp; done)))⟩
theorem spec_TraceOf_no (q a : Int) (w : World) (ha : inE q a = false) :
    Calls Try.prog 48 #[.int .i64 q, .int .i64 a] w fun e w' => e = .returned (.tuple #[.int .i64 0, .bool false]) ∧ Below w.heap.size w w' := by
  go_enter Try.func48, Try.ntmps48
  go_wp2_with fail
  refine (fdIn_any _ _ _).mono ?_
  rintro e w1 ⟨rfl, hb1⟩
  have hz_hb1 := hb1.size; (try simp at hz_hb1)
  go_wp2_with fail
  go_ret2
  exact ⟨rfl, by (repeat' (first | (with_reducible assumption) | (with_reducible exact Below.refl _ _) | (with_reducible refine below_drewN ?_ _) | (with_reducible refine Below.drew ?_) | (with_reducible refine Below.alloc ?_ ?_ _) | (with_reducible refine Below.setCell ?_ ?_ _) | (with_reducible refine Below.trans ?_ (Below.mono (by assumption) ?_)) | (with_reducible exact Nat.le_refl _) | (with_reducible assumption) | omega | (simp; omega) | (simp; done)))⟩

set_option maxHeartbeats 1000000 in
/-- spec.NormOf. -/
theorem spec_NormOf_yes (q a : Int) (w : World) (ha : inE q a = true) :
    Calls Try.prog 50 #[.int .i64 q, .int .i64 a] w fun e w' => e = .returned (.tuple #[.int .i64 (norTo q a (plN q)), .bool true]) ∧ Below w.heap.size w w' := by
  obtain ⟨h, h0, h1⟩ := inE_yes ha
  have hk := plN_bd q h
  have HR := Lib.hid (fun w => fdRound_any q a w h h0 h1)
  have HA := Lib.hid (fun (n : Nat) w => fdTimes_any q (norTo q a n) (fro q a n) w h (norTo_bd q a h h0 h1 n).1 (norTo_bd q a h h0 h1 n).2 (fro_bd q a h h0 h1 n).1 (fro_bd q a h h0 h1 n).2)
  clear h
  generalize plN q = k at *
  obtain ⟨hk1, hk4⟩ := hk
  go_enter Try.func50, Try.ntmps50
  go_wp2_with fail
  refine (fdIn_any _ _ _).mono ?_
  rintro e w0 ⟨rfl, hb0⟩
  have hz_hb0 := hb0.size; (try simp at hz_hb0)
  have HB0 := Lib.hid hb0; clear hb0
  go_wp2_with fail
  refine (HR.out _).mono ?_
  rintro e w1 ⟨v, rfl, hr, hb1⟩
  have hz_hb1 := hb1.size; (try simp at hz_hb1)
  obtain ⟨g, cap, rfl, hg1, hg2, hcl⟩ := hr.open (frol_len q a k) hk1
  have HCL := Lib.hid hcl; clear hcl hr
  have HB1 := Lib.hid hb1; clear hb1
  go_wp2_with fail
  go_loopw [6, 17] (fun vs vi wr => ∃ n : Nat, n ≤ k ∧ vi = .int .i64 n ∧ vs = .int .i64 (norTo q a n) ∧ Below w1.heap.size w1 wr) (fun _ vi _ => k - (intOf vi).toNat)
  case atStart => exact ⟨0, Nat.zero_le _, rfl, rfl, Below.refl _ _⟩
  case round =>
    obtain ⟨n, hn, rfl, rfl, hb⟩ := hrel
    have HS : Hid (norTo q a (n + 1) = mulF q (norTo q a n) (fro q a n)) := Lib.hid rfl
    have HA' := Lib.hid (fun w => HA.out n w)
    by_cases hlt : n < k
    · have hc := (hb.cell (p := ⟨g, n, none⟩) hg2).trans (HCL.out n hlt)
      rw [frol_get _ _ _ _ hlt] at hc
      have HB := Lib.hid hb; clear hb
      generalize fro q a n = x at *
      generalize norTo q a n = s at *
      go_wp2_with fail
      refine (HA'.out _).mono ?_
      rintro e w2 ⟨rfl, hb2⟩
      have HB2 := Lib.hid hb2; clear hb2
      go_wp2
      go_roundw
      case rel => exact ⟨n + 1, by omega, by go_num, by rw [HS.out], HB.out.trans (HB2.out.mono HB.out.size)⟩
      case measure => simp [intOf]; omega
    · obtain rfl : k = n := by omega
      have HB := Lib.hid hb; clear hb
      go_wp2
      go_ret2
      exact ⟨rfl, HB0.out.trans ((HB1.out.trans (HB.out.mono hz_hb1)).mono hz_hb0)⟩
theorem spec_NormOf_no (q a : Int) (w : World) (ha : inE q a = false) :
    Calls Try.prog 50 #[.int .i64 q, .int .i64 a] w fun e w' => e = .returned (.tuple #[.int .i64 0, .bool false]) ∧ Below w.heap.size w w' := by
  go_enter Try.func50, Try.ntmps50
  go_wp2_with fail
  refine (fdIn_any _ _ _).mono ?_
  rintro e w1 ⟨rfl, hb1⟩
  have hz_hb1 := hb1.size; (try simp at hz_hb1)
  go_wp2_with fail
  go_ret2
  exact ⟨rfl, by (repeat' (first | (with_reducible assumption) | (with_reducible exact Below.refl _ _) | (with_reducible refine below_drewN ?_ _) | (with_reducible refine Below.drew ?_) | (with_reducible refine Below.alloc ?_ ?_ _) | (with_reducible refine Below.setCell ?_ ?_ _) | (with_reducible refine Below.trans ?_ (Below.mono (by assumption) ?_)) | (with_reducible exact Nat.le_refl _) | (with_reducible assumption) | omega | (simp; omega) | (simp; done)))⟩
end Go.Proofs.Ytapglncgicfjnaa
