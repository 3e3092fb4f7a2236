/- digitsInBase, impl.PolyWith (of stage 3 on) and spec.PolyWith by contracts; the walk of their law. -/
import Derived.Test.YtommagdddleoiabLK
namespace Go.Proofs.Ytommagdddleoiab
open Go.RowKit
/-- The digits of a number in the base q, as many as it has; f rounds at most. -/
def bdig (q : Nat) : Nat → Nat → List Int
  | 0, _ => []
  | f + 1, n => if n = 0 then [] else ((n % q : Nat) : Int) :: bdig q f (n / q)
theorem bdig_len (q f n : Nat) : (bdig q f n).length ≤ f := by
  induction f generalizing n with
  | zero => simp [bdig]
  | succ f ih =>
    simp only [bdig]
    split
    · simp
    · have := ih (n / q)
      simp only [List.length_cons]
      omega
theorem bdig_zero (q f : Nat) : bdig q f 0 = [] := by cases f <;> simp [bdig]
theorem bdig_pos (q f n : Nat) (h : n ≠ 0) (hf : n < 2 ^ f) : ∃ f', f = f' + 1 ∧ bdig q f n = ((n % q : Nat) : Int) :: bdig q f' (n / q) := by
  cases f with
  | zero => simp at hf; omega
  | succ f => exact ⟨f, rfl, by simp [bdig, h]⟩
theorem half_lt (q f n : Nat) (hq : 2 ≤ q) (hf : n < 2 ^ (f + 1)) : n / q < 2 ^ f := by
  have h1 : n / q ≤ n / 2 := Nat.div_le_div_left hq (by omega)
  have h2 : 2 ^ (f + 1) = 2 * 2 ^ f := by rw [Nat.pow_succ]; omega
  omega

set_option maxHeartbeats 1000000 in
set_option maxRecDepth 100000 in
theorem spec_PolyWith_yes (q k : Nat) (w : World) (h : isSz (q : Int) = true) (k1 : k ≤ 999999) :
    Calls Try.prog 11 #[.int .i64 q, .int .i64 k] w fun e w' => ∃ v, e = .returned (.tuple #[v, .bool (decide ((bdig q 20 k).length ≤ q))]) ∧ Row w' w.heap.size v (if (bdig q 20 k).length ≤ q then bdig q 20 k else []) ∧ Below w.heap.size w w' := by
  obtain ⟨i0, hi, iz0, iz1, iz2⟩ := info_parts Try.infoI
  have hq := isSz_le (q : Int) h
  have hk : k < 2 ^ 20 := Nat.lt_of_le_of_lt k1 (by decide)
  have HD : Hid (∀ l, l = bdig q 20 k → l = bdig q 20 k) := Lib.hid fun _ h => h
  generalize hdd : bdig q 20 k = D at *
  have HDD := Lib.hid hdd; clear hdd HD
  have hk0 : decide ((0 : Int) ≤ (k : Int)) = true := by simp
  have hk1 : decide ((k : Int) ≤ 999999) = true := by simp; omega
  have HS := Lib.hid h; clear h
  go_enter Try.func11, Try.ntmps11
  go_wp2_with fail
  refine (fdSize_any _ _).mono ?_
  rintro e w1 ⟨rfl, hb1⟩
  rw [HS.out]
  have hz_hb1 := hb1.size; (try simp at hz_hb1)
  have HB1 := Lib.hid hb1; clear hb1
  go_wp2_with fail
  refine (l1In_any _ _ _ _).mono ?_
  rintro e w2 ⟨rfl, rfl⟩
  go_wp2_with fail
  go_loopw [6, 7] (fun vo va wr => ∃ (f n : Nat) (dn : List Int), n < 2 ^ f ∧ f ≤ 20 ∧ va = .int .i64 n ∧ dn ++ bdig q f n = D ∧ dn.length + f = 20 ∧ dn.length ≤ q ∧ n ≤ 999999 ∧ Row wr w1.heap.size vo dn ∧ Below w1.heap.size w1 wr) (fun _ va _ => (intOf va).toNat)
  case atStart => exact ⟨20, k, [], hk, Nat.le_refl _, rfl, by simpa using HDD.out, rfl, Nat.zero_le _, k1, Row.nil _ _, Below.refl _ _⟩
  case round =>
    obtain ⟨f, n, dn, hnf, hf, rfl, hD, hlen, hlq, hn9, hr, hb⟩ := hrel
    have hz := hb.size
    have HR := Lib.hid hr; clear hr
    have HB := Lib.hid hb; clear hb
    have HDn := Lib.hid hD; clear hD
    have HNF := Lib.hid hnf; clear hnf
    by_cases h0 : n = 0
    · subst h0
      have e : dn = D := by have := HDn.out; rw [bdig_zero, List.append_nil] at this; exact this
      subst e
      have HLQ := Lib.hid hlq; clear hlq
      go_wp2
      go_ret2
      exact ⟨_, rfl, HR.out.mono (by omega), HB1.out.trans (HB.out.mono hz_hb1)⟩
    · obtain ⟨f', rfl, hbd⟩ := bdig_pos q f n h0 HNF.out
      have HBD := Lib.hid hbd; clear hbd
      have hpos : (0 : Int) < (n : Int) := by omega
      by_cases hfull : dn.length = q
      · have hlong : ¬ D.length ≤ q := by
          rw [← HDn.out, HBD.out, List.length_append, List.length_cons]
          omega
        have HNL := Lib.hid hlong; clear hlong
        obtain ⟨a, cap, hv⟩ := HR.out.sl.form
        subst hv
        have hft : ((dn.length : Int) == (q : Int)) = true := by simp; omega
        clear hfull
        go_wp2
        go_ret2
        exact ⟨_, rfl, Row.nil _ _, HB1.out.trans (HB.out.mono hz_hb1)⟩
      · obtain ⟨a, cap, hv⟩ := HR.out.sl.form
        subst hv
        have hft : ((dn.length : Int) == (q : Int)) = false := by simp; omega
        have HL : Hid (dn.length + (f' + 1) = 20) := Lib.hid hlen
        have hdv0 : 0 ≤ (n : Int) / (q : Int) := Int.ediv_nonneg (by omega) (by omega)
        have hdv1 : (n : Int) / (q : Int) ≤ 999999 := Int.le_trans (Int.ediv_le_self _ (by omega)) (by omega)
        have HH := Lib.hid (half_lt q f' n (by omega) HNF.out)
        have HFL := Lib.hid hfull
        have HLQ := Lib.hid hlq
        clear hlen hfull hlq
        generalize hdl : dn.length = ld at *
        have HDL := Lib.hid hdl; clear hdl
        go_wp2_with (at_builtin; refine wpList_append_own _ rfl _ _ 22 rfl w1.heap.size 3 i0 (.int .i64 0) 1 8 Try.underlying22 hi iz0 iz1 iz2 rfl (by decide) _ _ _ rfl (World.ownsRow.alloc HR.out _) ⟨wr.heap.size, 0, none⟩ 1 1 [.int .i64 ((n % q : Nat) : Int)] rfl rfl ?c1 ?c2 ?c3 ?c4 ?c5 ?_)
        case c1 => exact cell_one_new _ _ _
        case c2 => intro u hu; simp at hu; subst hu; rfl
        case c3 => have := HDL.out; have := HL.out; unfold maxLen; omega
        case c4 => have := HDL.out; have := HL.out; omega
        case c5 => simp; omega
        intro v' w3 hown hgrow _
        have HR3 := Lib.hid (Row.of (l := dn ++ [((n % q : Nat) : Int)]) hown (by rw [List.length_append, HDL.out]; rfl) (by simp))
        have hb : Below w1.heap.size w1 (wr.alloc (.cells #[.int .i64 ((n % q : Nat) : Int)] 3)) := by have hb1 := HB.out; (repeat' (first | (with_reducible assumption) | (with_reducible exact Below.refl _ _) | (with_reducible refine below_drewN ?_ _) | (with_reducible refine Below.drew ?_) | (with_reducible refine Below.alloc ?_ ?_ _) | (with_reducible refine Below.setCell ?_ ?_ _) | (with_reducible refine Below.trans ?_ (Below.mono (by assumption) ?_)) | (with_reducible exact Nat.le_refl _) | (with_reducible assumption) | omega | (simp; omega) | (simp; done)))
        have HB3 := Lib.hid (hb.grown hgrow (by simp; omega) (fun g hg => (HR.out.lt g hg).1))
        clear hown hgrow hb
        go_wp2
        go_roundw
        case rel =>
          refine ⟨f', n / q, dn ++ [((n % q : Nat) : Int)], HH.out, by omega, by go_num, ?_, ?_, ?_, ?_, HR3.out, HB3.out⟩
          · rw [List.append_assoc, ← HDn.out, HBD.out]; rfl
          · have := HL.out; have := HDL.out; rw [List.length_append]; simp; omega
          · have := HLQ.out; have := HFL.out; have := HDL.out; rw [List.length_append]; simp; omega
          · exact Nat.le_trans (Nat.div_le_self _ _) hn9
        case measure =>
          have h2 : n / q < n := Nat.div_lt_self (by omega) (by omega)
          simp [intOf]; omega

set_option maxRecDepth 100000 in
theorem spec_PolyWith_no1 (q k : Int) (w : World) (h : isSz q = false) :
    Calls Try.prog 11 #[.int .i64 q, .int .i64 k] w fun e w' => e = .returned (.tuple #[.slice none 0 0, .bool false]) ∧ Below w.heap.size w w' := by
  go_enter Try.func11, Try.ntmps11
  go_wp2_with fail
  refine (fdSize_any _ _).mono ?_
  rintro e w1 ⟨rfl, hb1⟩
  rw [h]
  go_wp2
  go_ret2
  exact ⟨rfl, hb1⟩
set_option maxRecDepth 100000 in
theorem spec_PolyWith_no2 (q k : Int) (w : World) (h : isSz q = true) (hk : (decide (0 ≤ k) && decide (k ≤ 999999)) = false) :
    Calls Try.prog 11 #[.int .i64 q, .int .i64 k] w fun e w' => e = .returned (.tuple #[.slice none 0 0, .bool false]) ∧ Below w.heap.size w w' := by
  have HK := Lib.hid hk; clear hk
  go_enter Try.func11, Try.ntmps11
  go_wp2_with fail
  refine (fdSize_any _ _).mono ?_
  rintro e w1 ⟨rfl, hb1⟩
  rw [h]
  go_wp2_with fail
  refine (l1In_any _ _ _ _).mono ?_
  rintro e w2 ⟨rfl, rfl⟩
  rw [HK.out]
  go_wp2
  go_ret2
  exact ⟨rfl, hb1⟩
set_option maxRecDepth 100000 in
theorem impl_PolyWith_no1 (q k : Int) (w : World) (h : isSz q = false) :
    Calls Try.prog 12 #[.int .i64 q, .int .i64 k] w fun e w' => e = .returned (.tuple #[.slice none 0 0, .bool false]) ∧ Below w.heap.size w w' := by
  go_enter Try.func12, Try.ntmps12
  go_wp2_with fail
  refine (isSizeE _ _).mono ?_
  rintro e w1 ⟨rfl, hb1⟩
  rw [h]
  go_wp2
  go_ret2
  exact ⟨rfl, hb1⟩
set_option maxRecDepth 100000 in
theorem impl_PolyWith_no2 (q k : Int) (w : World) (h : isSz q = true) (hk : k < 0) :
    Calls Try.prog 12 #[.int .i64 q, .int .i64 k] w fun e w' => e = .returned (.tuple #[.slice none 0 0, .bool false]) ∧ Below w.heap.size w w' := by
  go_enter Try.func12, Try.ntmps12
  go_wp2_with fail
  refine (isSizeE _ _).mono ?_
  rintro e w1 ⟨rfl, hb1⟩
  rw [h]
  go_wp2
  go_ret2
  exact ⟨rfl, hb1⟩
set_option maxRecDepth 100000 in
theorem impl_PolyWith_no3 (q k : Int) (w : World) (h : isSz q = true) (hk : 999999 < k) :
    Calls Try.prog 12 #[.int .i64 q, .int .i64 k] w fun e w' => e = .returned (.tuple #[.slice none 0 0, .bool false]) ∧ Below w.heap.size w w' := by
  have hk0 : ¬ k < 0 := by omega
  go_enter Try.func12, Try.ntmps12
  go_wp2_with fail
  refine (isSizeE _ _).mono ?_
  rintro e w1 ⟨rfl, hb1⟩
  rw [h]
  go_wp2
  go_ret2
  exact ⟨rfl, hb1⟩

set_option maxHeartbeats 1000000 in
set_option maxRecDepth 100000 in
/-- impl.digitsInBase. -/
theorem digitsE (q k : Nat) (w : World) (hq : 2 ≤ q ∧ q ≤ 16) (hk : k < 2 ^ 20) :
    Calls Try.prog 36 #[.int .i64 q, .int .i64 k] w fun e w' => ∃ v, e = .returned v ∧ Row w' w.heap.size v (bdig q 20 k) ∧ Below w.heap.size w w' := by
  obtain ⟨i0, hi, iz0, iz1, iz2⟩ := info_parts Try.infoI
  have hk1 : k < 1048576 := hk
  generalize hdd : bdig q 20 k = D at *
  have HDD := Lib.hid hdd; clear hdd
  have HK := Lib.hid hk; clear hk
  go_enter Try.func36, Try.ntmps36
  go_wp2_with fail
  go_loopw [1, 5] (fun va vo wr => ∃ (f n : Nat) (dn : List Int), n < 2 ^ f ∧ f ≤ 20 ∧ va = .int .i64 n ∧ dn ++ bdig q f n = D ∧ dn.length + f = 20 ∧ n < 1048576 ∧ Row wr w.heap.size vo dn ∧ Below w.heap.size w wr) (fun va _ _ => (intOf va).toNat)
  case atStart => exact ⟨20, k, [], HK.out, Nat.le_refl _, rfl, by simpa using HDD.out, rfl, hk1, Row.nil _ _, Below.refl _ _⟩
  case round =>
    obtain ⟨f, n, dn, hnf, hf, rfl, hD, hlen, hn9, hr, hb⟩ := hrel
    have hz := hb.size
    have HR := Lib.hid hr; clear hr
    have HB := Lib.hid hb; clear hb
    have HDn := Lib.hid hD; clear hD
    have HNF := Lib.hid hnf; clear hnf
    by_cases h0 : n = 0
    · subst h0
      have e : dn = D := by have := HDn.out; rw [bdig_zero, List.append_nil] at this; exact this
      subst e
      go_wp2
      go_ret
      exact ⟨_, rfl, HR.out, HB.out⟩
    · obtain ⟨f', rfl, hbd⟩ := bdig_pos q f n h0 HNF.out
      have HBD := Lib.hid hbd; clear hbd
      have hpos : (0 : Int) < (n : Int) := by omega
      have HL : Hid (dn.length + (f' + 1) = 20) := Lib.hid hlen
      have hdv0 : 0 ≤ (n : Int) / (q : Int) := Int.ediv_nonneg (by omega) (by omega)
      have hdv1 : (n : Int) / (q : Int) ≤ 1048576 := Int.le_trans (Int.ediv_le_self _ (by omega)) (by omega)
      have HH := Lib.hid (half_lt q f' n (by omega) HNF.out)
      clear hlen
      go_wp2_with (at_builtin; refine wpList_append_own _ rfl _ _ 22 rfl w.heap.size 3 i0 (.int .i64 0) 1 8 Try.underlying22 hi iz0 iz1 iz2 rfl (by decide) _ _ _ rfl (World.ownsRow.alloc HR.out _) ⟨wr.heap.size, 0, none⟩ 1 1 [.int .i64 ((n % q : Nat) : Int)] rfl rfl ?c1 ?c2 ?c3 ?c4 ?c5 ?_)
      case c1 => exact cell_one_new _ _ _
      case c2 => intro u hu; simp at hu; subst hu; rfl
      case c3 => have := HL.out; unfold maxLen; omega
      case c4 => have := HL.out; omega
      case c5 => first | omega | (simp; omega)
      intro v' w3 hown hgrow _
      have HR3 := Lib.hid (Row.of (l := dn ++ [((n % q : Nat) : Int)]) hown (by rw [List.length_append]; rfl) (by simp))
      have hb : Below w.heap.size w (wr.alloc (.cells #[.int .i64 ((n % q : Nat) : Int)] 3)) := by have hb1 := HB.out; (repeat' (first | (with_reducible assumption) | (with_reducible exact Below.refl _ _) | (with_reducible refine below_drewN ?_ _) | (with_reducible refine Below.drew ?_) | (with_reducible refine Below.alloc ?_ ?_ _) | (with_reducible refine Below.setCell ?_ ?_ _) | (with_reducible refine Below.trans ?_ (Below.mono (by assumption) ?_)) | (with_reducible exact Nat.le_refl _) | (with_reducible assumption) | omega | (simp; omega) | (simp; done)))
      have HB3 := Lib.hid (hb.grown hgrow (by simp; omega) (fun g hg => (HR.out.lt g hg).1))
      clear hown hgrow hb
      go_wp2
      go_roundw
      case rel =>
        refine ⟨f', n / q, dn ++ [((n % q : Nat) : Int)], HH.out, by omega, by go_num, ?_, ?_, ?_, HR3.out, HB3.out⟩
        · rw [List.append_assoc, ← HDn.out, HBD.out]; rfl
        · have := HL.out; rw [List.length_append]; simp; omega
        · exact Nat.lt_of_le_of_lt (Nat.div_le_self _ _) hn9
      case measure =>
        have h2 : n / q < n := Nat.div_lt_self (by omega) (by omega)
        simp [intOf]; omega
set_option maxRecDepth 100000 in
theorem impl_PolyWith_yes (q k : Nat) (w : World) (h : isSz (q : Int) = true) (k1 : k ≤ 999999) :
    Calls Try.prog 12 #[.int .i64 q, .int .i64 k] w fun e w' => ∃ v, e = .returned (.tuple #[v, .bool (decide ((bdig q 20 k).length ≤ q))]) ∧ Row w' w.heap.size v (if (bdig q 20 k).length ≤ q then bdig q 20 k else []) ∧ Below w.heap.size w w' := by
  have hq := isSz_le (q : Int) h
  have HDG := Lib.hid (fun w => digitsE q k w (by omega) (Nat.lt_of_le_of_lt k1 (by decide)))
  have HLD := Lib.hid (bdig_len q 20 k)
  generalize bdig q 20 k = D at *
  have hk0 : ¬ (k : Int) < 0 := by omega
  have hk1 : ¬ (999999 : Int) < (k : Int) := by omega
  have HS := Lib.hid h; clear h
  go_enter Try.func12, Try.ntmps12
  go_wp2_with fail
  refine (isSizeE _ _).mono ?_
  rintro e w1 ⟨rfl, hb1⟩
  rw [HS.out]
  have hz_hb1 := hb1.size; (try simp at hz_hb1)
  have HB1 := Lib.hid hb1; clear hb1
  go_wp2_with fail
  refine (HDG.out _).mono ?_
  rintro e w2 ⟨v2, rfl, hr2, hb2⟩
  have HR2 := Lib.hid hr2; clear hr2
  have HB2 := Lib.hid hb2; clear hb2
  obtain ⟨a, cap, hv⟩ := HR2.out.sl.form
  subst hv
  have hdl := HLD.out
  by_cases hle : D.length ≤ q
  · have hn : ¬ (q : Int) < (D.length : Int) := by omega
    have hd : decide (D.length ≤ q) = true := decide_eq_true hle
    go_wp2
    go_ret2
    refine ⟨_, rfl, ?_, HB1.out.trans (HB2.out.mono hz_hb1)⟩
    have hr := HR2.out.mono (B' := w.heap.size) (by omega)
    simpa [hle] using hr
  · have hn : (q : Int) < (D.length : Int) := by omega
    have hd : decide (D.length ≤ q) = false := decide_eq_false hle
    go_wp2
    go_ret2
    refine ⟨_, rfl, ?_, HB1.out.trans (HB2.out.mono hz_hb1)⟩
    simpa [hle] using Row.nil w2 w.heap.size

set_option maxRecDepth 100000 in
set_option maxHeartbeats 2000000 in
/-- laws.FnExactPolyWith. -/
theorem walk_FnExactPolyWith (q k : Int) (_h : (Lit.int .i64 q).wf = true) (_h1 : (Lit.int .i64 k).wf = true) (w : World) :
    Calls Try.prog 3 #[.int .i64 q, .int .i64 k] w fun e w' => e = .returned (.bool true) ∧ Below w.heap.size w w' := by
  have key : ∃ (l : List Int) (o : Bool), l.length ≤ 100 ∧ (∀ w, Calls Try.prog 11 #[.int .i64 q, .int .i64 k] w fun e w' => ∃ v, e = .returned (.tuple #[v, .bool o]) ∧ Row w' w.heap.size v l ∧ Below w.heap.size w w') ∧
      (∀ w, Calls Try.prog 12 #[.int .i64 q, .int .i64 k] w fun e w' => ∃ v, e = .returned (.tuple #[v, .bool o]) ∧ Row w' w.heap.size v l ∧ Below w.heap.size w w') := by
    cases h : isSz q with
    | false => exact ⟨[], false, by simp, fun w => (spec_PolyWith_no1 q k w h).mono fun _ _ ⟨he, hb⟩ => ⟨_, he, Row.nil _ _, hb⟩, fun w => (impl_PolyWith_no1 q k w h).mono fun _ _ ⟨he, hb⟩ => ⟨_, he, Row.nil _ _, hb⟩⟩
    | true =>
      by_cases k0 : k < 0
      · exact ⟨[], false, by simp, fun w => (spec_PolyWith_no2 q k w h (by simp; omega)).mono fun _ _ ⟨he, hb⟩ => ⟨_, he, Row.nil _ _, hb⟩, fun w => (impl_PolyWith_no2 q k w h k0).mono fun _ _ ⟨he, hb⟩ => ⟨_, he, Row.nil _ _, hb⟩⟩
      · by_cases k1 : 999999 < k
        · exact ⟨[], false, by simp, fun w => (spec_PolyWith_no2 q k w h (by simp; omega)).mono fun _ _ ⟨he, hb⟩ => ⟨_, he, Row.nil _ _, hb⟩, fun w => (impl_PolyWith_no3 q k w h k1).mono fun _ _ ⟨he, hb⟩ => ⟨_, he, Row.nil _ _, hb⟩⟩
        · have hq := isSz_le q h
          obtain ⟨q', rfl⟩ := Int.eq_ofNat_of_zero_le (show 0 ≤ q by omega)
          obtain ⟨k', rfl⟩ := Int.eq_ofNat_of_zero_le (show 0 ≤ k by omega)
          refine ⟨_, _, ?_, fun w => spec_PolyWith_yes q' k' w h (by omega), fun w => impl_PolyWith_yes q' k' w h (by omega)⟩
          have := bdig_len q' 20 k'
          split
          · omega
          · simp
  obtain ⟨l, o, hl, k1, k2⟩ := key
  have K1 := Lib.hid k1; clear k1
  have K2 := Lib.hid k2; clear k2
  clear _h _h1
  go_enter Try.func3, Try.ntmps3
  go_wp2_with fail
  refine (K1.out _).mono ?_
  rintro e w1 ⟨v1, rfl, hr1, hb1⟩
  have hz_hb1 := hb1.size; (try simp at hz_hb1)
  have HR1 := Lib.hid hr1; clear hr1
  have HB1 := Lib.hid hb1; clear hb1
  go_wp2_with fail
  refine (K2.out _).mono ?_
  rintro e w2 ⟨v2, rfl, hr2, hb2⟩
  have hz_hb2 := hb2.size; (try simp at hz_hb2)
  have HR1b := Lib.hid (HR1.out.below hb2)
  have HR2 := Lib.hid hr2; clear hr2
  have HB2 := Lib.hid hb2; clear hb2
  go_wp2_with fail
  refine (eq_same v2 v1 l _ _ _ HR2.out HR1b.out (by omega)).mono ?_
  rintro e w3 ⟨rfl, hb3⟩
  have hz_hb3 := hb3.size; (try simp at hz_hb3)
  have HR1c := Lib.hid (HR1b.out.below hb3)
  have HR2c := Lib.hid (HR2.out.below hb3)
  have HB3 := Lib.hid hb3; clear hb3
  go_wp2_with fail
  refine (mark_any v2 l _ 1 _ HR2c.out (by omega) (by decide) (by decide)).mono ?_
  rintro e w4 ⟨rfl, hr4, hg4⟩
  have hz4 := hg4.size
  have HR1d := Lib.hid (HR1c.out.keep (w' := w4) fun g hg => hg4.block g (HR1c.out.lt g hg).2 fun e => by have h1 := (HR1.out.lt g hg).2; have h2 := (HR2c.out.lt g e.symm).1; omega)
  have HB4 : Hid (Below w.heap.size w w4) := Lib.hid (Below.grown (by have hb1 := HB1.out; have hb2 := HB2.out; have hb3 := HB3.out; (repeat' (first | (with_reducible assumption) | (with_reducible exact Below.refl _ _) | (with_reducible refine below_drewN ?_ _) | (with_reducible refine Below.drew ?_) | (with_reducible refine Below.alloc ?_ ?_ _) | (with_reducible refine Below.setCell ?_ ?_ _) | (with_reducible refine Below.trans ?_ (Below.mono (by assumption) ?_)) | (with_reducible exact Nat.le_refl _) | (with_reducible assumption) | omega | (simp; omega) | (simp; done)))) hg4 (by omega) (fun g e => by have := (HR2c.out.lt g e).1; omega))
  have HR4 := Lib.hid hr4; clear hr4
  clear hg4
  go_wp2_with fail
  refine (held_any v2 l.length _ 1 _ HR4.out (by omega) (by decide) (by decide)).mono ?_
  rintro e w5 ⟨rfl, rfl⟩
  go_wp2_with fail
  refine (K2.out _).mono ?_
  rintro e w6 ⟨v6, rfl, hr6, hb6⟩
  have hz_hb6 := hb6.size; (try simp at hz_hb6)
  have HR1e := Lib.hid (HR1d.out.below hb6)
  have HR4e := Lib.hid (HR4.out.below hb6)
  have HR6 := Lib.hid hr6; clear hr6
  have HB6 := Lib.hid hb6; clear hb6
  go_wp2_with fail
  refine (eq_same v6 v1 l _ _ _ HR6.out HR1e.out (by omega)).mono ?_
  rintro e w7 ⟨rfl, hb7⟩
  have hz_hb7 := hb7.size; (try simp at hz_hb7)
  have HR4f := Lib.hid (HR4e.out.below hb7)
  have HB7 := Lib.hid hb7; clear hb7
  go_wp2_with fail
  refine (held_any v2 l.length _ 1 _ HR4f.out (by omega) (by decide) (by decide)).mono ?_
  rintro e w8 ⟨rfl, rfl⟩
  go_wp2
  go_ret
  have hb4 := HB4.out
  have hb6 := HB6.out
  have hb7 := HB7.out
  exact ⟨rfl, by (repeat' (first | (with_reducible assumption) | (with_reducible exact Below.refl _ _) | (with_reducible refine below_drewN ?_ _) | (with_reducible refine Below.drew ?_) | (with_reducible refine Below.alloc ?_ ?_ _) | (with_reducible refine Below.setCell ?_ ?_ _) | (with_reducible refine Below.trans ?_ (Below.mono (by assumption) ?_)) | (with_reducible exact Nat.le_refl _) | (with_reducible assumption) | omega | (simp; omega) | (simp; done)))⟩
end Go.Proofs.Ytommagdddleoiab
