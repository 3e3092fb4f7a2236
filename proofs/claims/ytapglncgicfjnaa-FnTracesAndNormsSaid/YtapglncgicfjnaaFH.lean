/- spec.SquaresOf and spec.SubfieldOf by contracts. -/
import Derived.Test.YtapglncgicfjnaaKI
import Derived.Test.YtapglncgicfjnaaKG
namespace Go.Proofs.Ytapglncgicfjnaa
open Go.RowKit
theorem sqTo_pos (q : Int) (n : Nat) (h : 0 < n) : 0 < (sqTo q n).length := by
  obtain ⟨k, rfl⟩ : ∃ k, n = k + 1 := ⟨n - 1, by omega⟩
  simp only [sqTo, ins]
  split
  · rename_i hc
    omega
  · simp
    omega

set_option maxHeartbeats 1000000 in
/-- spec.SquaresOf. -/
theorem spec_SquaresOf_yes (q : Int) (w : World) (h : isSz q = true) :
    Calls Try.prog 38 #[.int .i64 q] w fun e w' => ∃ v, e = .returned (.tuple #[v, .bool true]) ∧ Row w' w.heap.size v (sqTo q q.toNat) ∧ Below w.heap.size w w' := by
  have hq := isSz_le q h
  have HT := Lib.hid (fun (n : Nat) w (hn : (n : Int) < q) => fdTimes_any q (n : Int) (n : Int) w h (by omega) hn (by omega) hn)
  obtain ⟨m, hm⟩ := Int.eq_ofNat_of_zero_le (show 0 ≤ q by omega)
  subst hm
  rw [Int.toNat_natCast]
  go_enter Try.func38, Try.ntmps38
  go_wp2_with fail
  refine (fdSize_any _ _).mono ?_
  rintro e w1 ⟨rfl, hb1⟩
  have hz_hb1 := hb1.size; (try simp at hz_hb1)
  have HB1 := Lib.hid hb1; clear hb1
  go_wp2_with fail
  go_loopw [4, 5] (fun vo va wr => ∃ n : Nat, n ≤ m ∧ va = .int .i64 n ∧ Row wr w1.heap.size vo (sqTo (m : Int) n) ∧ (n = 0 → vo = .slice none 0 0) ∧ Below w1.heap.size w1 wr) (fun _ va _ => m - (intOf va).toNat)
  case atStart => exact ⟨0, Nat.zero_le _, rfl, Row.nil _ _, fun _ => rfl, Below.refl _ _⟩
  case round =>
    obtain ⟨n, hn, rfl, hr, hv, hb⟩ := hrel
    have hz := hb.size
    have HL := Lib.hid (sqTo_len (m : Int) n)
    by_cases hlt : n < m
    · have hnq : (n : Int) < (m : Int) := by omega
      have HT' := Lib.hid (fun w => HT.out n w hnq)
      have HS : Hid (sqTo (m : Int) (n + 1) = ins (sqTo (m : Int) n) (mulF (m : Int) (n : Int) (n : Int))) := Lib.hid rfl
      have HB := Lib.hid hb; clear hb
      by_cases h0 : n = 0
      · have hvv := hv h0
        subst hvv
        have HE : Hid (sqTo (m : Int) n = []) := Lib.hid (by rw [h0]; rfl)
        clear hr hv h0
        generalize mulF (m : Int) (n : Int) (n : Int) = x at *
        go_wp2_with fail
        refine (HT'.out _).mono ?_
        rintro e w2 ⟨rfl, hb2⟩
        have hz_hb2 := hb2.size; (try simp at hz_hb2)
        have HB2 := Lib.hid hb2; clear hb2
        go_wp2_with fail
        refine (l1Put_nil x _).mono ?_
        rintro e w3 ⟨v3, rfl, hr3, hb3⟩
        have hz_hb3 := hb3.size; (try simp at hz_hb3)
        have HR3 := Lib.hid hr3; clear hr3
        have HB3 := Lib.hid hb3; clear hb3
        go_wp2
        go_roundw
        case rel => exact ⟨n + 1, by omega, by go_num, by rw [HS.out, HE.out]; exact HR3.out.mono (by omega), by omega, HB.out.trans ((HB2.out.trans (HB3.out.mono (by omega))).mono hz)⟩
        case measure => simp [intOf]; omega
      · have hp := sqTo_pos (m : Int) n (by omega)
        have HR := Lib.hid hr; clear hr hv h0
        have HP := Lib.hid hp; clear hp
        generalize mulF (m : Int) (n : Int) (n : Int) = x at *
        go_wp2_with fail
        refine (HT'.out _).mono ?_
        rintro e w2 ⟨rfl, hb2⟩
        have hz_hb2 := hb2.size; (try simp at hz_hb2)
        have HR2 := Lib.hid (HR.out.below hb2)
        have HB2 := Lib.hid hb2; clear hb2
        go_wp2_with fail
        refine (l1Put_any _ _ x w1.heap.size _ HR2.out HP.out (by have := HL.out; omega) (by omega)).mono ?_
        rintro e w3 ⟨v3, rfl, hr3, hb3⟩
        have hz_hb3 := hb3.size; (try simp at hz_hb3)
        have HR3 := Lib.hid hr3; clear hr3
        have HB3 := Lib.hid hb3; clear hb3
        go_wp2
        go_roundw
        case rel => exact ⟨n + 1, by omega, by go_num, by rw [HS.out]; exact HR3.out, by omega, HB.out.trans ((HB2.out.trans (HB3.out.mono (by omega))).mono hz)⟩
        case measure => simp [intOf]; omega
    · obtain rfl : m = n := by omega
      have HR := Lib.hid hr; clear hr hv
      have HB := Lib.hid hb; clear hb
      go_wp2
      go_ret2
      exact ⟨_, rfl, HR.out.mono hz_hb1, HB1.out.trans (HB.out.mono hz_hb1)⟩
theorem spec_SquaresOf_no (q : Int) (w : World) (h : isSz q = false) :
    Calls Try.prog 38 #[.int .i64 q] w fun e w' => e = .returned (.tuple #[.slice none 0 0, .bool false]) ∧ Below w.heap.size w w' := by
  go_enter Try.func38, Try.ntmps38
  go_wp2_with fail
  refine (fdSize_any _ _).mono ?_
  rintro e w1 ⟨rfl, hb1⟩
  have hz_hb1 := hb1.size; (try simp at hz_hb1)
  go_wp2_with fail
  go_ret2
  exact ⟨rfl, by (repeat' (first | (with_reducible assumption) | (with_reducible exact Below.refl _ _) | (with_reducible refine below_drewN ?_ _) | (with_reducible refine Below.drew ?_) | (with_reducible refine Below.alloc ?_ ?_ _) | (with_reducible refine Below.setCell ?_ ?_ _) | (with_reducible refine Below.trans ?_ (Below.mono (by assumption) ?_)) | (with_reducible exact Nat.le_refl _) | (with_reducible assumption) | omega | (simp; omega) | (simp; done)))⟩

/-- The property 'its power r is itself', as the model asks it. -/
def isFix' (q r : Int) (a : Nat) : Bool := pw q (a : Int) r.toNat == (a : Int)
set_option maxHeartbeats 1000000 in
/-- spec.SubfieldOf. -/
theorem spec_SubfieldOf_yes (q r : Int) (w : World) (h : isSz q = true) (h' : isSz r = true) (hp : pr q = pr r) (hd : plN q % plN r = 0) :
    Calls Try.prog 57 #[.int .i64 q, .int .i64 r] w fun e w' => ∃ v, e = .returned (.tuple #[v, .bool true]) ∧ Row w' w.heap.size v (wh (isFix' q r) q.toNat) ∧ Below w.heap.size w w' := by
  obtain ⟨i0, hi, iz0, iz1, iz2⟩ := info_parts Try.infoI
  have hq := isSz_le q h
  have hr := isSz_le r h'
  have hk := plN_bd r h'
  have HP1 := Lib.hid (fun w => fdPrime_any q w h)
  have HP2 := Lib.hid (fun w => fdPrime_any r w h')
  have HT := Lib.hid (fun (n : Nat) w (hn : (n : Int) < q) => fdPower_any q (n : Int) r w h (by omega) hn (by omega) (by omega))
  have HI : Hid (∀ n, isFix' q r n = (pw q (n : Int) r.toNat == (n : Int))) := Lib.hid (fun _ => rfl)
  have hne : (pr q != pr r) = false := by simp [hp]
  have hpl : pl q % pl r = 0 := by unfold pl; omega
  have hl0 : 0 ≤ pl q := by unfold pl; omega
  have hl1 : 0 < pl r := by unfold pl; omega
  obtain ⟨m, hm⟩ := Int.eq_ofNat_of_zero_le (show 0 ≤ q by omega)
  subst hm
  rw [Int.toNat_natCast]
  generalize isFix' (m : Int) r = P at *
  clear hd hk hp
  go_enter Try.func57, Try.ntmps57
  go_wp2_with fail
  refine (fdSize_any _ _).mono ?_
  rintro e w1 ⟨rfl, hb1⟩
  have hz_hb1 := hb1.size; (try simp at hz_hb1)
  have HB1 := Lib.hid hb1; clear hb1
  go_wp2_with fail
  refine (fdSize_any _ _).mono ?_
  rintro e w2 ⟨rfl, hb2⟩
  have hz_hb2 := hb2.size; (try simp at hz_hb2)
  have HB2 : Hid (Below w.heap.size w w2) := Lib.hid (HB1.out.trans (hb2.mono hz_hb1)); clear hb2
  go_wp2_with fail
  refine (HP1.out _).mono ?_
  rintro e w3 ⟨rfl, rfl⟩
  go_wp2_with fail
  refine (HP2.out _).mono ?_
  rintro e w3 ⟨rfl, rfl⟩
  go_wp2_with fail
  go_loopw [10, 11] (fun vo va wr => ∃ n : Nat, n ≤ m ∧ va = .int .i64 n ∧ Row wr w2.heap.size vo (wh P n) ∧ Below w2.heap.size w2 wr) (fun _ va _ => m - (intOf va).toNat)
  case atStart => exact ⟨0, Nat.zero_le _, rfl, Row.nil _ _, Below.refl _ _⟩
  case round =>
    obtain ⟨n, hnm, rfl, hr, hb⟩ := hrel
    clear hne hpl hl0 hl1
    have hz := hb.size
    have HR := Lib.hid hr; clear hr
    have HB := Lib.hid hb; clear hb
    have HL := Lib.hid (wh_len P n)
    by_cases hlt : n < m
    · have HT' := Lib.hid (fun w => HT.out n w (by omega))
      have hpn := HI.out n
      generalize pw (m : Int) (n : Int) r.toNat = x at *
      cases hp : P n with
      | true =>
        rw [hp] at hpn
        replace hpn := hpn.symm
        have HS := Lib.hid (wh_yes P n hp); clear hp
        go_wp2_with fail
        refine (HT'.out _).mono ?_
        rintro e w5 ⟨rfl, hb2⟩
        have hz_hb2 := hb2.size; (try simp at hz_hb2)
        have HB2' := Lib.hid hb2; clear hb2
        have HR2 := Lib.hid (HR.out.below HB2'.out)
        go_wp2_with (at_builtin; refine wpList_append_own _ rfl _ _ 22 rfl w2.heap.size 3 i0 (.int .i64 0) 1 8 Try.underlying22 hi iz0 iz1 iz2 rfl (by decide) _ _ _ rfl (World.ownsRow.alloc HR2.out _) ⟨w5.heap.size, 0, none⟩ 1 1 [.int .i64 n] rfl rfl ?c1 ?c2 ?c3 ?c4 ?c5 ?_)
        case c1 => exact cell_one_new _ _ _
        case c2 => intro u hu; simp at hu; subst hu; rfl
        case c3 => have := HL.out; unfold maxLen; omega
        case c4 => have := HL.out; omega
        case c5 => simp; omega
        intro v' w3 hown hgrow _
        have HR3 := Lib.hid (Row.appended hown)
        have hb : Below w2.heap.size w2 (w5.alloc (.cells #[.int .i64 n] 3)) := by have hb1 := HB.out; have hb2 := HB2'.out; (repeat' (first | (with_reducible assumption) | (with_reducible exact Below.refl _ _) | (with_reducible refine below_drewN ?_ _) | (with_reducible refine Below.drew ?_) | (with_reducible refine Below.alloc ?_ ?_ _) | (with_reducible refine Below.setCell ?_ ?_ _) | (with_reducible refine Below.trans ?_ (Below.mono (by assumption) ?_)) | (with_reducible exact Nat.le_refl _) | (with_reducible assumption) | omega | (simp; omega) | (simp; done)))
        have HB3 := Lib.hid (hb.grown hgrow (by simp; omega) (fun g hg => (HR2.out.lt g hg).1))
        clear hown hgrow hb
        go_wp2
        go_roundw
        case rel => exact ⟨n + 1, by omega, by go_num, by rw [HS.out]; exact HR3.out, HB3.out⟩
        case measure => simp [intOf]; omega
      | false =>
        rw [hp] at hpn
        replace hpn := hpn.symm
        have HS := Lib.hid (wh_no P n hp); clear hp
        go_wp2_with fail
        refine (HT'.out _).mono ?_
        rintro e w5 ⟨rfl, hb2⟩
        have hz_hb2 := hb2.size; (try simp at hz_hb2)
        have HB2' := Lib.hid hb2; clear hb2
        have HR2 := Lib.hid (HR.out.below HB2'.out)
        go_wp2
        go_roundw
        case rel => exact ⟨n + 1, by omega, by go_num, by rw [HS.out]; exact HR2.out, HB.out.trans (HB2'.out.mono hz)⟩
        case measure => simp [intOf]; omega
    · obtain rfl : m = n := by omega
      go_wp2
      go_ret2
      exact ⟨_, rfl, HR.out.mono (by omega), HB2.out.trans (HB.out.mono (by omega))⟩
/-- r is none of a smaller field. -/
def subOk (q r : Int) : Bool := isSz q && (isSz r && (pr q == pr r && plN q % plN r == 0))
theorem spec_SubfieldOf_no (q r : Int) (w : World) (hn : subOk q r = false) :
    Calls Try.prog 57 #[.int .i64 q, .int .i64 r] w fun e w' => e = .returned (.tuple #[.slice none 0 0, .bool false]) ∧ Below w.heap.size w w' := by
  cases h : isSz q with
  | false =>
    clear hn
    go_enter Try.func57, Try.ntmps57
    go_wp2_with fail
    refine (fdSize_any _ _).mono ?_
    rintro e w1 ⟨rfl, hb1⟩
    have hz_hb1 := hb1.size; (try simp at hz_hb1)
    go_wp2_with fail
    go_ret2
    exact ⟨rfl, by (repeat' (first | (with_reducible assumption) | (with_reducible exact Below.refl _ _) | (with_reducible refine below_drewN ?_ _) | (with_reducible refine Below.drew ?_) | (with_reducible refine Below.alloc ?_ ?_ _) | (with_reducible refine Below.setCell ?_ ?_ _) | (with_reducible refine Below.trans ?_ (Below.mono (by assumption) ?_)) | (with_reducible exact Nat.le_refl _) | (with_reducible assumption) | omega | (simp; omega) | (simp; done)))⟩
  | true =>
    cases h' : isSz r with
    | false =>
      clear hn
      go_enter Try.func57, Try.ntmps57
      go_wp2_with fail
      refine (fdSize_any _ _).mono ?_
      rintro e w1 ⟨rfl, hb1⟩
      have hz_hb1 := hb1.size; (try simp at hz_hb1)
      go_wp2_with fail
      refine (fdSize_any _ _).mono ?_
      rintro e w2 ⟨rfl, hb2⟩
      have hz_hb2 := hb2.size; (try simp at hz_hb2)
      go_wp2_with fail
      go_ret2
      exact ⟨rfl, by (repeat' (first | (with_reducible assumption) | (with_reducible exact Below.refl _ _) | (with_reducible refine below_drewN ?_ _) | (with_reducible refine Below.drew ?_) | (with_reducible refine Below.alloc ?_ ?_ _) | (with_reducible refine Below.setCell ?_ ?_ _) | (with_reducible refine Below.trans ?_ (Below.mono (by assumption) ?_)) | (with_reducible exact Nat.le_refl _) | (with_reducible assumption) | omega | (simp; omega) | (simp; done)))⟩
    | true =>
      have hk := plN_bd r h'
      have HP1 := Lib.hid (fun w => fdPrime_any q w h)
      have HP2 := Lib.hid (fun w => fdPrime_any r w h')
      have hl0 : 0 ≤ pl q := by unfold pl; omega
      have hl1 : 0 < pl r := by unfold pl; omega
      cases hp : pr q == pr r with
      | false =>
        have hne : (pr q != pr r) = true := by simpa using hp
        clear hn hp hk
        go_enter Try.func57, Try.ntmps57
        go_wp2_with fail
        refine (fdSize_any _ _).mono ?_
        rintro e w1 ⟨rfl, hb1⟩
        have hz_hb1 := hb1.size; (try simp at hz_hb1)
        have HB1 := Lib.hid hb1; clear hb1
        go_wp2_with fail
        refine (fdSize_any _ _).mono ?_
        rintro e w2 ⟨rfl, hb2⟩
        have hz_hb2 := hb2.size; (try simp at hz_hb2)
        have HB2 : Hid (Below w.heap.size w w2) := Lib.hid (HB1.out.trans (hb2.mono hz_hb1)); clear hb2
        go_wp2_with fail
        refine (HP1.out _).mono ?_
        rintro e w3 ⟨rfl, rfl⟩
        go_wp2_with fail
        refine (HP2.out _).mono ?_
        rintro e w3 ⟨rfl, rfl⟩
        go_wp2_with fail
        go_ret2
        exact ⟨rfl, HB2.out⟩
      | true =>
        have hne : (pr q != pr r) = false := by simpa using hp
        have hpl : (pl q % pl r != 0) = true := by
          simp only [subOk, h, h', hp, Bool.true_and, beq_eq_false_iff_ne] at hn
          unfold pl
          rw [bne_iff_ne]
          omega
        clear hn hp hk
        go_enter Try.func57, Try.ntmps57
        go_wp2_with fail
        refine (fdSize_any _ _).mono ?_
        rintro e w1 ⟨rfl, hb1⟩
        have hz_hb1 := hb1.size; (try simp at hz_hb1)
        have HB1 := Lib.hid hb1; clear hb1
        go_wp2_with fail
        refine (fdSize_any _ _).mono ?_
        rintro e w2 ⟨rfl, hb2⟩
        have hz_hb2 := hb2.size; (try simp at hz_hb2)
        have HB2 : Hid (Below w.heap.size w w2) := Lib.hid (HB1.out.trans (hb2.mono hz_hb1)); clear hb2
        go_wp2_with fail
        refine (HP1.out _).mono ?_
        rintro e w3 ⟨rfl, rfl⟩
        go_wp2_with fail
        refine (HP2.out _).mono ?_
        rintro e w3 ⟨rfl, rfl⟩
        go_wp2_with fail
        go_ret2
        exact ⟨rfl, HB2.out⟩
end Go.Proofs.Ytapglncgicfjnaa
