/- digitsInBase, impl.PolyWith (of stage 3 on) and spec.PolyWith by contracts; the walk of their law. -/
import Derived.Test.YtnmdcmbcackchabLK
namespace Go.Proofs.Ytnmdcmbcackchab
open Go.RowKit
/-- The digits of a number in the base q, as many as it has; f rounds at most. -/
def bdig (q : Nat) : Nat → Nat → List Int
  | 0, _ => []
  | f + 1, n => if n = 0 then [] else ((n % q : Nat) : Int) :: bdig q f (n / q)
theorem bdig_len (q f n : Nat) : (bdig q f n).length ≤ f := by
  induction f generalizing n with
  | zero => simp [bdig]
  | succ f ih =>
    simp only [bdig]
    split
    · simp
    · have := ih (n / q)
      simp only [List.length_cons]
      omega
theorem bdig_zero (q f : Nat) : bdig q f 0 = [] := by cases f <;> simp [bdig]
theorem bdig_pos (q f n : Nat) (h : n ≠ 0) (hf : n < 2 ^ f) : ∃ f', f = f' + 1 ∧ bdig q f n = ((n % q : Nat) : Int) :: bdig q f' (n / q) := by
  cases f with
  | zero => simp at hf; omega
  | succ f => exact ⟨f, rfl, by simp [bdig, h]⟩
theorem half_lt (q f n : Nat) (hq : 2 ≤ q) (hf : n < 2 ^ (f + 1)) : n / q < 2 ^ f := by
  have h1 : n / q ≤ n / 2 := Nat.div_le_div_left hq (by omega)
  have h2 : 2 ^ (f + 1) = 2 * 2 ^ f := by rw [Nat.pow_succ]; omega
  omega

set_option maxHeartbeats 1000000 in
set_option maxRecDepth 100000 in
/-- impl.digitsInBase. -/
theorem digitsE (q k : Nat) (w : World) (hq : 2 ≤ q ∧ q ≤ 16) (hk : k < 2 ^ 20) :
    Calls Try.prog 90 #[.int .i64 q, .int .i64 k] w fun e w' => ∃ v, e = .returned v ∧ Row w' w.heap.size v (bdig q 20 k) ∧ Below w.heap.size w w' := by
  obtain ⟨i0, hi, iz0, iz1, iz2⟩ := info_parts Try.infoI
  have hk1 : k < 1048576 := hk
  generalize hdd : bdig q 20 k = D at *
  have HDD := Lib.hid hdd; clear hdd
  have HK := Lib.hid hk; clear hk
  go_enter Try.func90, Try.ntmps90
  go_wp2_with fail
  go_loopw [1, 5] (fun va vo wr => ∃ (f n : Nat) (dn : List Int), n < 2 ^ f ∧ f ≤ 20 ∧ va = .int .i64 n ∧ dn ++ bdig q f n = D ∧ dn.length + f = 20 ∧ n < 1048576 ∧ Row wr w.heap.size vo dn ∧ Below w.heap.size w wr) (fun va _ _ => (intOf va).toNat)
  case atStart => exact ⟨20, k, [], HK.out, Nat.le_refl _, rfl, by simpa using HDD.out, rfl, hk1, Row.nil _ _, Below.refl _ _⟩
  case round =>
    obtain ⟨f, n, dn, hnf, hf, rfl, hD, hlen, hn9, hr, hb⟩ := hrel
    have hz := hb.size
    have HR := Lib.hid hr; clear hr
    have HB := Lib.hid hb; clear hb
    have HDn := Lib.hid hD; clear hD
    have HNF := Lib.hid hnf; clear hnf
    by_cases h0 : n = 0
    · subst h0
      have e : dn = D := by have := HDn.out; rw [bdig_zero, List.append_nil] at this; exact this
      subst e
      go_wp2
      go_ret
      exact ⟨_, rfl, HR.out, HB.out⟩
    · obtain ⟨f', rfl, hbd⟩ := bdig_pos q f n h0 HNF.out
      have HBD := Lib.hid hbd; clear hbd
      have hpos : (0 : Int) < (n : Int) := by omega
      have HL : Hid (dn.length + (f' + 1) = 20) := Lib.hid hlen
      have hdv0 : 0 ≤ (n : Int) / (q : Int) := Int.ediv_nonneg (by omega) (by omega)
      have hdv1 : (n : Int) / (q : Int) ≤ 1048576 := Int.le_trans (Int.ediv_le_self _ (by omega)) (by omega)
      have HH := Lib.hid (half_lt q f' n (by omega) HNF.out)
      clear hlen
      go_wp2_with (at_builtin; refine wpList_append_own _ rfl _ _ 22 rfl w.heap.size 3 i0 (.int .i64 0) 1 8 Try.underlying22 hi iz0 iz1 iz2 rfl (by decide) _ _ _ rfl (World.ownsRow.alloc HR.out _) ⟨wr.heap.size, 0, none⟩ 1 1 [.int .i64 ((n % q : Nat) : Int)] rfl rfl ?c1 ?c2 ?c3 ?c4 ?c5 ?_)
      case c1 => exact cell_one_new _ _ _
      case c2 => intro u hu; simp at hu; subst hu; rfl
      case c3 => have := HL.out; unfold maxLen; omega
      case c4 => have := HL.out; omega
      case c5 => first | omega | (simp; omega)
      intro v' w3 hown hgrow _
      have HR3 := Lib.hid (Row.of (l := dn ++ [((n % q : Nat) : Int)]) hown (by rw [List.length_append]; rfl) (by simp))
      have hb : Below w.heap.size w (wr.alloc (.cells #[.int .i64 ((n % q : Nat) : Int)] 3)) := by have hb1 := HB.out; (repeat' (first | (with_reducible assumption) | (with_reducible exact Below.refl _ _) | (with_reducible refine below_drewN ?_ _) | (with_reducible refine Below.drew ?_) | (with_reducible refine Below.alloc ?_ ?_ _) | (with_reducible refine Below.setCell ?_ ?_ _) | (with_reducible refine Below.trans ?_ (Below.mono (by assumption) ?_)) | (with_reducible exact Nat.le_refl _) | (with_reducible assumption) | omega | (simp; omega) | (simp; done)))
      have HB3 := Lib.hid (hb.grown hgrow (by simp; omega) (fun g hg => (HR.out.lt g hg).1))
      clear hown hgrow hb
      go_wp2
      go_roundw
      case rel =>
        refine ⟨f', n / q, dn ++ [((n % q : Nat) : Int)], HH.out, by omega, by go_num, ?_, ?_, ?_, HR3.out, HB3.out⟩
        · rw [List.append_assoc, ← HDn.out, HBD.out]; rfl
        · have := HL.out; rw [List.length_append]; simp; omega
        · exact Nat.lt_of_le_of_lt (Nat.div_le_self _ _) hn9
      case measure =>
        have h2 : n / q < n := Nat.div_lt_self (by omega) (by omega)
        simp [intOf]; omega
end Go.Proofs.Ytnmdcmbcackchab
