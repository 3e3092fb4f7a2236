/- The walk of the law of digits. -/
import Derived.Test.YtaldlkokbpidiaaKE
import Derived.Test.YtaldlkokbpidiaaKC
namespace Go.Proofs.Ytaldlkokbpidiaa
open Go.RowKit

/-- spec.DigitsOf. -/
theorem spec_DigitsOf_yes (q a : Int) (w : World) (ha : inE q a = true) :
    Calls Try.prog 19 #[.int .i64 q, .int .i64 a] w fun e w' => ∃ v, e = .returned (.tuple #[v, .bool true]) ∧ Row w' w.heap.size v (digs (plN q) (pr q) a) ∧ Below w.heap.size w w' := by
  have HC := Lib.hid (fun w => fdDigits_any q a w (inE_yes ha).1 (inE_yes ha).2.1 (inE_yes ha).2.2)
  go_enter Try.func19, Try.ntmps19
  go_wp2_with fail
  refine (fdIn_any _ _ _).mono ?_
  rintro e w1 ⟨rfl, hb1⟩
  have hz_hb1 := hb1.size; (try simp at hz_hb1)
  go_wp2_with fail
  refine (HC.out _).mono ?_
  rintro e w2 ⟨v, rfl, hr, hb2⟩
  have hz_hb2 := hb2.size; (try simp at hz_hb2)
  have HR := Lib.hid hr; clear hr
  go_wp2
  go_ret2
  exact ⟨_, rfl, HR.out.mono hz_hb1, by (repeat' (first | (with_reducible assumption) | (with_reducible exact Below.refl _ _) | (with_reducible refine below_drewN ?_ _) | (with_reducible refine Below.drew ?_) | (with_reducible refine Below.alloc ?_ ?_ _) | (with_reducible refine Below.setCell ?_ ?_ _) | (with_reducible refine Below.trans ?_ (Below.mono (by assumption) ?_)) | (with_reducible exact Nat.le_refl _) | (with_reducible assumption) | omega | (simp; omega) | (simp; done)))⟩
theorem spec_DigitsOf_no (q a : Int) (w : World) (ha : inE q a = false) :
    Calls Try.prog 19 #[.int .i64 q, .int .i64 a] w fun e w' => e = .returned (.tuple #[.slice none 0 0, .bool false]) ∧ Below w.heap.size w w' := by
  go_enter Try.func19, Try.ntmps19
  go_wp2_with fail
  refine (fdIn_any _ _ _).mono ?_
  rintro e w1 ⟨rfl, hb1⟩
  have hz_hb1 := hb1.size; (try simp at hz_hb1)
  go_wp2_with fail
  go_ret2
  exact ⟨rfl, by (repeat' (first | (with_reducible assumption) | (with_reducible exact Below.refl _ _) | (with_reducible refine below_drewN ?_ _) | (with_reducible refine Below.drew ?_) | (with_reducible refine Below.alloc ?_ ?_ _) | (with_reducible refine Below.setCell ?_ ?_ _) | (with_reducible refine Below.trans ?_ (Below.mono (by assumption) ?_)) | (with_reducible exact Nat.le_refl _) | (with_reducible assumption) | omega | (simp; omega) | (simp; done)))⟩

theorem dg_get (q a : Int) (j : Nat) : (digs (plN q) (pr q) a)[j]?.getD 0 = dg q a j := by simp [dg, List.getD]
set_option maxHeartbeats 1000000 in
/-- impl.element.digitList. -/
theorem digitListE (q a : Int) (w : World) (h : isSz q = true) :
    Calls Try.prog 40 #[elE q a] w fun e w' => ∃ v, e = .returned v ∧ Row w' w.heap.size v (digs (plN q) (pr q) a) ∧ Below w.heap.size w w' := by
  obtain ⟨i0, hi, hz0, hz1, hz2⟩ := info_parts Try.infoI
  have hk := plN_bd q h
  have HL := Lib.hid (digs_len (plN q) (pr q) a)
  have HG := Lib.hid (dg_get q a)
  have HBB : Hid (∀ o, Below w.heap.size w (w.alloc o)) := Lib.hid fun o => (Below.refl _ w).alloc (Nat.le_refl _) o
  unfold elE pl
  clear h
  generalize digs (plN q) (pr q) a = l at *
  generalize plN q = k at *
  generalize pr q = p at *
  obtain ⟨hk1, hk4⟩ := hk
  have hki0 : (0 : Int) ≤ (k : Int) := by omega
  have hki4 : (k : Int) ≤ 4 := by omega
  go_enter Try.func40, Try.ntmps40
  go_wp2_with (at_builtin; refine wpList_append_own _ rfl _ _ 31 rfl w.heap.size 3 i0 (.int .i64 0) 1 8 Try.underlying31 hi hz0 hz1 hz2 rfl (by decide) (.slice none 0 0) 0 [] rfl (World.ownsRow_nil _ _ _ _) ⟨w.heap.size, 3, none⟩ k 4 (l.map (Value.int .i64)) rfl ?d1 ?c1 ?c2 ?c3 ?c4 ?c5 ?_)
  case d1 => simp [HL.out]
  case c1 =>
    intro j u hu
    rw [List.getElem?_map] at hu
    obtain ⟨x, hx, rfl⟩ := Option.map_eq_some_iff.1 hu
    have hj : j < 4 := by
      have := (List.getElem?_eq_some_iff.1 hx).1
      rw [HL.out] at this
      omega
    have hg := HG.out j
    rw [hx] at hg
    simp only [Option.getD_some] at hg
    subst hg
    have hs : j = 0 ∨ j = 1 ∨ j = 2 ∨ j = 3 := by omega
    rcases hs with rfl | rfl | rfl | rfl
    all_goals
      refine (World.cell?_alloc_at _ _ _ _ rfl).trans ?_
      rfl
  case c2 =>
    intro u hu
    obtain ⟨x, _, rfl⟩ := List.mem_map.1 hu
    rfl
  case c3 => unfold maxLen; omega
  case c4 => omega
  case c5 => simp
  intro v' w2 hown hgrow _
  have hr : Row w2 w.heap.size v' l := by
    unfold Row
    rw [HL.out]
    exact hown
  have hb2 : Below w.heap.size w w2 := Below.grown (HBB.out _) hgrow (by simp) (fun g hg => by simp [Value.ownBlock] at hg)
  have HR := Lib.hid hr
  have HB2 := Lib.hid hb2
  clear hr hb2 hown hgrow
  go_wp2
  go_ret
  exact ⟨_, rfl, HR.out, HB2.out⟩
/-- impl.DigitsOf. -/
theorem impl_DigitsOf_yes (q a : Int) (w : World) (ha : inE q a = true) :
    Calls Try.prog 15 #[.int .i64 q, .int .i64 a] w fun e w' => ∃ v, e = .returned (.tuple #[v, .bool true]) ∧ Row w' w.heap.size v (digs (plN q) (pr q) a) ∧ Below w.heap.size w w' := by
  have HC := Lib.hid (fun w => elementOf_yes q a w ha)
  have HD := Lib.hid (fun w => digitListE q a w (inE_yes ha).1)
  clear ha
  go_enter Try.func15, Try.ntmps15
  go_wp2_with fail
  refine (HC.out _).mono ?_
  rintro e w1 ⟨rfl, hb1⟩
  have hz_hb1 := hb1.size; (try simp at hz_hb1)
  have HB1 := Lib.hid hb1; clear hb1
  go_wp2_with fail
  refine (HD.out _).mono ?_
  rintro e w2 ⟨v, rfl, hr, hb2⟩
  have HR := Lib.hid hr; clear hr
  have HB2 := Lib.hid hb2; clear hb2
  go_wp2
  go_ret2
  have hb1 := HB1.out
  have hb2 := HB2.out
  exact ⟨_, rfl, HR.out.mono (by simp; omega), by (repeat' (first | (with_reducible assumption) | (with_reducible exact Below.refl _ _) | (with_reducible refine below_drewN ?_ _) | (with_reducible refine Below.drew ?_) | (with_reducible refine Below.alloc ?_ ?_ _) | (with_reducible refine Below.setCell ?_ ?_ _) | (with_reducible refine Below.trans ?_ (Below.mono (by assumption) ?_)) | (with_reducible exact Nat.le_refl _) | (with_reducible assumption) | omega | (simp; omega) | (simp; done)))⟩
theorem impl_DigitsOf_no (q a : Int) (w : World) (ha : inE q a = false) :
    Calls Try.prog 15 #[.int .i64 q, .int .i64 a] w fun e w' => e = .returned (.tuple #[.slice none 0 0, .bool false]) ∧ Below w.heap.size w w' := by
  have HC := Lib.hid (fun w => elementOf_no q a w ha)
  clear ha
  go_enter Try.func15, Try.ntmps15
  go_wp2_with fail
  refine (HC.out _).mono ?_
  rintro e w1 ⟨rfl, hb1⟩
  have hz_hb1 := hb1.size; (try simp at hz_hb1)
  have HB1 := Lib.hid hb1; clear hb1
  go_wp2_with fail
  go_ret2
  have hb1 := HB1.out
  exact ⟨rfl, by (repeat' (first | (with_reducible assumption) | (with_reducible exact Below.refl _ _) | (with_reducible refine below_drewN ?_ _) | (with_reducible refine Below.drew ?_) | (with_reducible refine Below.alloc ?_ ?_ _) | (with_reducible refine Below.setCell ?_ ?_ _) | (with_reducible refine Below.trans ?_ (Below.mono (by assumption) ?_)) | (with_reducible exact Nat.le_refl _) | (with_reducible assumption) | omega | (simp; omega) | (simp; done)))⟩

end Go.Proofs.Ytaldlkokbpidiaa
