/- The walk of the law of the modulus. -/
import Derived.Test.YtaldlkokbpidiaaKE
import Derived.Test.YtaldlkokbpidiaaKC
namespace Go.Proofs.Ytaldlkokbpidiaa
open Go.RowKit

/-- The modulus, whole. -/
def mdlW (q : Int) : List Int := mdl q ++ [1]
theorem mdlW_len (q : Int) (h : isSz q = true) : (mdlW q).length = plN q + 1 := by
  rw [mdlW, List.length_append, (mdl_len q h).1]
  rfl
/-- spec.ModulusOf. -/
theorem spec_ModulusOf_yes (q : Int) (w : World) (h : isSz q = true) :
    Calls Try.prog 24 #[.int .i64 q] w fun e w' => ∃ v, e = .returned (.tuple #[v, .bool true]) ∧ Row w' w.heap.size v (mdlW q) ∧ Below w.heap.size w w' := by
  obtain ⟨i0, hi, hz0, hz1, hz2⟩ := info_parts Try.infoI
  have HC := Lib.hid (fun w => fdModulus_any q w h)
  have hl := mdl_len q h
  have hk := plN_bd q h
  have HL : Hid ((mdl q).length ≤ 4) := Lib.hid (by rw [hl.1]; exact hk.2)
  clear hl hk
  have HW : Hid (mdlW q = mdl q ++ [1]) := Lib.hid rfl
  generalize mdl q = m at *
  generalize mdlW q = mw at *
  go_enter Try.func24, Try.ntmps24
  go_wp2_with fail
  refine (fdSize_any _ _).mono ?_
  rintro e w1 ⟨rfl, hb1⟩
  have hz_hb1 := hb1.size; (try simp at hz_hb1)
  have HB1 := Lib.hid hb1; clear hb1
  go_wp2_with fail
  refine (HC.out _).mono ?_
  rintro e w2 ⟨v, rfl, hr, hb2⟩
  have hz_hb2 := hb2.size; (try simp at hz_hb2)
  have HR := Lib.hid (hr.mono hz_hb1); clear hr
  have HB2 := Lib.hid hb2; clear hb2
  go_wp2_with (at_builtin; refine wpList_append_own _ rfl _ _ 31 rfl w.heap.size 3 i0 (.int .i64 0) 1 8 Try.underlying31 hi hz0 hz1 hz2 rfl (by decide) _ _ _ rfl (World.ownsRow.alloc HR.out _) ⟨w2.heap.size, 0, none⟩ 1 1 [.int .i64 1] rfl rfl ?c1 ?c2 ?c3 ?c4 ?c5 ?_)
  case c1 => exact cell_one_new _ _ _
  case c2 => intro u hu; simp at hu; subst hu; rfl
  case c3 => have := HL.out; unfold maxLen; omega
  case c4 => have := HL.out; omega
  case c5 => simp; omega
  intro v' w3 hown hgrow _
  have HR1 : Hid (Row w3 w.heap.size v' mw) := Lib.hid (by rw [HW.out]; exact Row.appended hown)
  have hb : Below w.heap.size w (w2.alloc (.cells #[.int .i64 1] 3)) := by have hb1 := HB1.out; have hb2 := HB2.out; (repeat' (first | (with_reducible assumption) | (with_reducible exact Below.refl _ _) | (with_reducible refine below_drewN ?_ _) | (with_reducible refine Below.drew ?_) | (with_reducible refine Below.alloc ?_ ?_ _) | (with_reducible refine Below.setCell ?_ ?_ _) | (with_reducible refine Below.trans ?_ (Below.mono (by assumption) ?_)) | (with_reducible exact Nat.le_refl _) | (with_reducible assumption) | omega | (simp; omega) | (simp; done)))
  have HB3 := Lib.hid (hb.grown hgrow (by simp; omega) (fun g hg => (HR.out.lt g hg).1))
  clear hown hgrow hb
  go_wp2
  go_ret2
  exact ⟨_, rfl, HR1.out, HB3.out⟩
theorem spec_ModulusOf_no (q : Int) (w : World) (h : isSz q = false) :
    Calls Try.prog 24 #[.int .i64 q] w fun e w' => e = .returned (.tuple #[.slice none 0 0, .bool false]) ∧ Below w.heap.size w w' := by
  go_enter Try.func24, Try.ntmps24
  go_wp2_with fail
  refine (fdSize_any _ _).mono ?_
  rintro e w1 ⟨rfl, hb1⟩
  have hz_hb1 := hb1.size; (try simp at hz_hb1)
  go_wp2_with fail
  go_ret2
  exact ⟨rfl, by (repeat' (first | (with_reducible assumption) | (with_reducible exact Below.refl _ _) | (with_reducible refine below_drewN ?_ _) | (with_reducible refine Below.drew ?_) | (with_reducible refine Below.alloc ?_ ?_ _) | (with_reducible refine Below.setCell ?_ ?_ _) | (with_reducible refine Below.trans ?_ (Below.mono (by assumption) ?_)) | (with_reducible exact Nat.le_refl _) | (with_reducible assumption) | omega | (simp; omega) | (simp; done)))⟩
theorem impl_ModulusOf_no (q : Int) (w : World) (h : isSz q = false) :
    Calls Try.prog 23 #[.int .i64 q] w fun e w' => e = .returned (.tuple #[.slice none 0 0, .bool false]) ∧ Below w.heap.size w w' := by
  have HC := Lib.hid (fun w => fieldOf_no q w h)
  clear h
  go_enter Try.func23, Try.ntmps23
  go_wp2_with fail
  refine (HC.out _).mono ?_
  rintro e w1 ⟨rfl, hb1⟩
  have hz_hb1 := hb1.size; (try simp at hz_hb1)
  have HB1 := Lib.hid hb1; clear hb1
  go_wp2_with fail
  go_ret2
  have hb1 := HB1.out
  exact ⟨rfl, by (repeat' (first | (with_reducible assumption) | (with_reducible exact Below.refl _ _) | (with_reducible refine below_drewN ?_ _) | (with_reducible refine Below.drew ?_) | (with_reducible refine Below.alloc ?_ ?_ _) | (with_reducible refine Below.setCell ?_ ?_ _) | (with_reducible refine Below.trans ?_ (Below.mono (by assumption) ?_)) | (with_reducible exact Nat.le_refl _) | (with_reducible assumption) | omega | (simp; omega) | (simp; done)))⟩

theorem modE (q : Int) (h : isSz q = true) : ∃ x0 x1 x2 x3 x4 : Int, (∀ w, Calls Try.prog 48 #[fdE q] w fun e w' => e = .returned (.agg #[.int .i64 x0, .int .i64 x1, .int .i64 x2, .int .i64 x3, .int .i64 x4]) ∧ Below w.heap.size w w') ∧
    (mdlW q) = [x0, x1, x2, x3, x4].take (plN q + 1) := by
  have hb : ∀ (w w' : World) (A B : Obj), (w.alloc A).alloc B = w' → Below w.heap.size w w' := by
    rintro w w' A B rfl
    exact ((Below.refl _ _).alloc (Nat.le_refl _) _).alloc (by simp) _
  rcases five q h with ⟨hk, hp, q2, q13, n4, n8, n9, n16⟩ | rfl | rfl | rfl | rfl
  · refine ⟨0, 1, 0, 0, 0, fun w => ?_, by simp [mdlW, mdl, hk, n4, n8, n9, n16]⟩
    rw [show fdE q = .agg #[.int .i64 q, .int .i64 q, .int .i64 1] from by simp [fdE, pl, hk, hp]]
    exact (modulus_one q w (by simp [n4]) (by simp [n8]) (by simp [n9]) (by simp [n16])).mono fun _ _ ⟨he, hw⟩ => ⟨he, hb _ _ _ _ hw⟩
  · refine ⟨1, 1, 1, 0, 0, fun w => ?_, rfl⟩
    rw [show fdE 4 = .agg #[.int .i64 4, .int .i64 2, .int .i64 2] from by simp [fdE, pl, pr, plN]]
    exact (modulus_4 w).mono fun _ _ ⟨he, hw⟩ => ⟨he, hb _ _ _ _ hw⟩
  · refine ⟨1, 1, 0, 1, 0, fun w => ?_, rfl⟩
    rw [show fdE 8 = .agg #[.int .i64 8, .int .i64 2, .int .i64 3] from by simp [fdE, pl, pr, plN]]
    exact (modulus_8 w).mono fun _ _ ⟨he, hw⟩ => ⟨he, hb _ _ _ _ hw⟩
  · refine ⟨1, 0, 1, 0, 0, fun w => ?_, rfl⟩
    rw [show fdE 9 = .agg #[.int .i64 9, .int .i64 3, .int .i64 2] from by simp [fdE, pl, pr, plN]]
    exact (modulus_9 w).mono fun _ _ ⟨he, hw⟩ => ⟨he, hb _ _ _ _ hw⟩
  · refine ⟨1, 1, 0, 0, 1, fun w => ?_, rfl⟩
    rw [show fdE 16 = .agg #[.int .i64 16, .int .i64 2, .int .i64 4] from by simp [fdE, pl, pr, plN]]
    exact (modulus_16 w).mono fun _ _ ⟨he, hw⟩ => ⟨he, hb _ _ _ _ hw⟩

set_option maxHeartbeats 1000000 in
/-- impl.ModulusOf. -/
theorem impl_ModulusOf_yes (q : Int) (w : World) (h : isSz q = true) :
    Calls Try.prog 23 #[.int .i64 q] w fun e w' => ∃ v, e = .returned (.tuple #[v, .bool true]) ∧ Row w' w.heap.size v (mdlW q) ∧ Below w.heap.size w w' := by
  obtain ⟨i0, hi, iz0, iz1, iz2⟩ := info_parts Try.infoI
  obtain ⟨x0, x1, x2, x3, x4, hc, hx⟩ := modE q h
  have hk := plN_bd q h
  have HC := Lib.hid (fun w => fieldOf_yes q w h)
  have HMd := Lib.hid hc; clear hc
  have HL := Lib.hid (mdlW_len q h)
  have HX := Lib.hid hx; clear hx
  clear h
  generalize mdlW q = l at *
  unfold fdE pl at HMd
  unfold pl at HC
  generalize plN q = k at *
  generalize pr q = p at *
  have hk' : k = 1 ∨ k = 2 ∨ k = 3 ∨ k = 4 := by omega
  clear hk
  rcases hk' with rfl | rfl | rfl | rfl
  · go_enter Try.func23, Try.ntmps23
    go_wp2_with fail
    refine (HC.out _).mono ?_
    rintro e w1 ⟨rfl, hb1⟩
    obtain ⟨hc1, hf1⟩ := bcell hb1; have hz1 := hb1.size; (try simp at hz1); have HB1 := Lib.hid hb1; clear hb1
    go_wp2_with fail
    refine (HMd.out _).mono ?_
    rintro e w2 ⟨rfl, hb2⟩
    obtain ⟨hc2, hf2⟩ := bcell hb2; have hz2 := hb2.size; (try simp at hz2); have HB2 := Lib.hid hb2; clear hb2
    have hl1 : w1.heap.size < w2.heap.size := by omega
    go_wp2_with (at_builtin; refine wpList_append_own _ rfl _ _ 31 rfl w.heap.size 3 i0 (.int .i64 0) 1 8 Try.underlying31 hi iz0 iz1 iz2 rfl (by decide) (.slice none 0 0) 0 [] rfl (World.ownsRow_nil _ _ _ _) ⟨w2.heap.size, 0, none⟩ 2 5 (l.map (Value.int .i64)) rfl ?d1 ?c1 ?c2 ?c3 ?c4 ?c5 ?_)
    case d1 => simp [HL.out]
    case c1 =>
      intro j u hu
      rw [HX.out] at hu
      have hj : j < 2 := by
        have := (List.getElem?_eq_some_iff.1 hu).1
        simpa using this
      have hs : j = 0 ∨ j = 1 := by omega
      rcases hs with rfl | rfl
      all_goals
        refine (World.cell?_alloc_at _ _ _ _ rfl).trans ?_
        exact hu
    case c2 =>
      intro u hu
      obtain ⟨x, _, rfl⟩ := List.mem_map.1 hu
      rfl
    case c3 => decide
    case c4 => decide
    case c5 => simp; omega
    intro v' w3 hown hgrow _
    have hr : Row w3 w.heap.size v' l := by
      unfold Row
      rw [HL.out]
      exact hown
    have hb : Below w.heap.size w (w2.alloc (.cells #[.int .i64 x0, .int .i64 x1, .int .i64 x2, .int .i64 x3, .int .i64 x4] 66)) := by have hb1 := HB1.out; have hb2 := HB2.out; (repeat' (first | (with_reducible assumption) | (with_reducible exact Below.refl _ _) | (with_reducible refine below_drewN ?_ _) | (with_reducible refine Below.drew ?_) | (with_reducible refine Below.alloc ?_ ?_ _) | (with_reducible refine Below.setCell ?_ ?_ _) | (with_reducible refine Below.trans ?_ (Below.mono (by assumption) ?_)) | (with_reducible exact Nat.le_refl _) | (with_reducible assumption) | omega | (simp; omega) | (simp; done)))
    have hb3 := hb.grown hgrow (by simp; omega) (fun g hg => by simp [Value.ownBlock] at hg)
    have HR := Lib.hid hr
    have HB3 := Lib.hid hb3
    clear hr hb3 hb hown hgrow
    go_wp2
    go_ret2
    exact ⟨_, rfl, HR.out, HB3.out⟩
  · go_enter Try.func23, Try.ntmps23
    go_wp2_with fail
    refine (HC.out _).mono ?_
    rintro e w1 ⟨rfl, hb1⟩
    obtain ⟨hc1, hf1⟩ := bcell hb1; have hz1 := hb1.size; (try simp at hz1); have HB1 := Lib.hid hb1; clear hb1
    go_wp2_with fail
    refine (HMd.out _).mono ?_
    rintro e w2 ⟨rfl, hb2⟩
    obtain ⟨hc2, hf2⟩ := bcell hb2; have hz2 := hb2.size; (try simp at hz2); have HB2 := Lib.hid hb2; clear hb2
    have hl1 : w1.heap.size < w2.heap.size := by omega
    go_wp2_with (at_builtin; refine wpList_append_own _ rfl _ _ 31 rfl w.heap.size 3 i0 (.int .i64 0) 1 8 Try.underlying31 hi iz0 iz1 iz2 rfl (by decide) (.slice none 0 0) 0 [] rfl (World.ownsRow_nil _ _ _ _) ⟨w2.heap.size, 0, none⟩ 3 5 (l.map (Value.int .i64)) rfl ?d1 ?c1 ?c2 ?c3 ?c4 ?c5 ?_)
    case d1 => simp [HL.out]
    case c1 =>
      intro j u hu
      rw [HX.out] at hu
      have hj : j < 3 := by
        have := (List.getElem?_eq_some_iff.1 hu).1
        simpa using this
      have hs : j = 0 ∨ j = 1 ∨ j = 2 := by omega
      rcases hs with rfl | rfl | rfl
      all_goals
        refine (World.cell?_alloc_at _ _ _ _ rfl).trans ?_
        exact hu
    case c2 =>
      intro u hu
      obtain ⟨x, _, rfl⟩ := List.mem_map.1 hu
      rfl
    case c3 => decide
    case c4 => decide
    case c5 => simp; omega
    intro v' w3 hown hgrow _
    have hr : Row w3 w.heap.size v' l := by
      unfold Row
      rw [HL.out]
      exact hown
    have hb : Below w.heap.size w (w2.alloc (.cells #[.int .i64 x0, .int .i64 x1, .int .i64 x2, .int .i64 x3, .int .i64 x4] 66)) := by have hb1 := HB1.out; have hb2 := HB2.out; (repeat' (first | (with_reducible assumption) | (with_reducible exact Below.refl _ _) | (with_reducible refine below_drewN ?_ _) | (with_reducible refine Below.drew ?_) | (with_reducible refine Below.alloc ?_ ?_ _) | (with_reducible refine Below.setCell ?_ ?_ _) | (with_reducible refine Below.trans ?_ (Below.mono (by assumption) ?_)) | (with_reducible exact Nat.le_refl _) | (with_reducible assumption) | omega | (simp; omega) | (simp; done)))
    have hb3 := hb.grown hgrow (by simp; omega) (fun g hg => by simp [Value.ownBlock] at hg)
    have HR := Lib.hid hr
    have HB3 := Lib.hid hb3
    clear hr hb3 hb hown hgrow
    go_wp2
    go_ret2
    exact ⟨_, rfl, HR.out, HB3.out⟩
  · go_enter Try.func23, Try.ntmps23
    go_wp2_with fail
    refine (HC.out _).mono ?_
    rintro e w1 ⟨rfl, hb1⟩
    obtain ⟨hc1, hf1⟩ := bcell hb1; have hz1 := hb1.size; (try simp at hz1); have HB1 := Lib.hid hb1; clear hb1
    go_wp2_with fail
    refine (HMd.out _).mono ?_
    rintro e w2 ⟨rfl, hb2⟩
    obtain ⟨hc2, hf2⟩ := bcell hb2; have hz2 := hb2.size; (try simp at hz2); have HB2 := Lib.hid hb2; clear hb2
    have hl1 : w1.heap.size < w2.heap.size := by omega
    go_wp2_with (at_builtin; refine wpList_append_own _ rfl _ _ 31 rfl w.heap.size 3 i0 (.int .i64 0) 1 8 Try.underlying31 hi iz0 iz1 iz2 rfl (by decide) (.slice none 0 0) 0 [] rfl (World.ownsRow_nil _ _ _ _) ⟨w2.heap.size, 0, none⟩ 4 5 (l.map (Value.int .i64)) rfl ?d1 ?c1 ?c2 ?c3 ?c4 ?c5 ?_)
    case d1 => simp [HL.out]
    case c1 =>
      intro j u hu
      rw [HX.out] at hu
      have hj : j < 4 := by
        have := (List.getElem?_eq_some_iff.1 hu).1
        simpa using this
      have hs : j = 0 ∨ j = 1 ∨ j = 2 ∨ j = 3 := by omega
      rcases hs with rfl | rfl | rfl | rfl
      all_goals
        refine (World.cell?_alloc_at _ _ _ _ rfl).trans ?_
        exact hu
    case c2 =>
      intro u hu
      obtain ⟨x, _, rfl⟩ := List.mem_map.1 hu
      rfl
    case c3 => decide
    case c4 => decide
    case c5 => simp; omega
    intro v' w3 hown hgrow _
    have hr : Row w3 w.heap.size v' l := by
      unfold Row
      rw [HL.out]
      exact hown
    have hb : Below w.heap.size w (w2.alloc (.cells #[.int .i64 x0, .int .i64 x1, .int .i64 x2, .int .i64 x3, .int .i64 x4] 66)) := by have hb1 := HB1.out; have hb2 := HB2.out; (repeat' (first | (with_reducible assumption) | (with_reducible exact Below.refl _ _) | (with_reducible refine below_drewN ?_ _) | (with_reducible refine Below.drew ?_) | (with_reducible refine Below.alloc ?_ ?_ _) | (with_reducible refine Below.setCell ?_ ?_ _) | (with_reducible refine Below.trans ?_ (Below.mono (by assumption) ?_)) | (with_reducible exact Nat.le_refl _) | (with_reducible assumption) | omega | (simp; omega) | (simp; done)))
    have hb3 := hb.grown hgrow (by simp; omega) (fun g hg => by simp [Value.ownBlock] at hg)
    have HR := Lib.hid hr
    have HB3 := Lib.hid hb3
    clear hr hb3 hb hown hgrow
    go_wp2
    go_ret2
    exact ⟨_, rfl, HR.out, HB3.out⟩
  · go_enter Try.func23, Try.ntmps23
    go_wp2_with fail
    refine (HC.out _).mono ?_
    rintro e w1 ⟨rfl, hb1⟩
    obtain ⟨hc1, hf1⟩ := bcell hb1; have hz1 := hb1.size; (try simp at hz1); have HB1 := Lib.hid hb1; clear hb1
    go_wp2_with fail
    refine (HMd.out _).mono ?_
    rintro e w2 ⟨rfl, hb2⟩
    obtain ⟨hc2, hf2⟩ := bcell hb2; have hz2 := hb2.size; (try simp at hz2); have HB2 := Lib.hid hb2; clear hb2
    have hl1 : w1.heap.size < w2.heap.size := by omega
    go_wp2_with (at_builtin; refine wpList_append_own _ rfl _ _ 31 rfl w.heap.size 3 i0 (.int .i64 0) 1 8 Try.underlying31 hi iz0 iz1 iz2 rfl (by decide) (.slice none 0 0) 0 [] rfl (World.ownsRow_nil _ _ _ _) ⟨w2.heap.size, 0, none⟩ 5 5 (l.map (Value.int .i64)) rfl ?d1 ?c1 ?c2 ?c3 ?c4 ?c5 ?_)
    case d1 => simp [HL.out]
    case c1 =>
      intro j u hu
      rw [HX.out] at hu
      have hj : j < 5 := by
        have := (List.getElem?_eq_some_iff.1 hu).1
        simpa using this
      have hs : j = 0 ∨ j = 1 ∨ j = 2 ∨ j = 3 ∨ j = 4 := by omega
      rcases hs with rfl | rfl | rfl | rfl | rfl
      all_goals
        refine (World.cell?_alloc_at _ _ _ _ rfl).trans ?_
        exact hu
    case c2 =>
      intro u hu
      obtain ⟨x, _, rfl⟩ := List.mem_map.1 hu
      rfl
    case c3 => decide
    case c4 => decide
    case c5 => simp; omega
    intro v' w3 hown hgrow _
    have hr : Row w3 w.heap.size v' l := by
      unfold Row
      rw [HL.out]
      exact hown
    have hb : Below w.heap.size w (w2.alloc (.cells #[.int .i64 x0, .int .i64 x1, .int .i64 x2, .int .i64 x3, .int .i64 x4] 66)) := by have hb1 := HB1.out; have hb2 := HB2.out; (repeat' (first | (with_reducible assumption) | (with_reducible exact Below.refl _ _) | (with_reducible refine below_drewN ?_ _) | (with_reducible refine Below.drew ?_) | (with_reducible refine Below.alloc ?_ ?_ _) | (with_reducible refine Below.setCell ?_ ?_ _) | (with_reducible refine Below.trans ?_ (Below.mono (by assumption) ?_)) | (with_reducible exact Nat.le_refl _) | (with_reducible assumption) | omega | (simp; omega) | (simp; done)))
    have hb3 := hb.grown hgrow (by simp; omega) (fun g hg => by simp [Value.ownBlock] at hg)
    have HR := Lib.hid hr
    have HB3 := Lib.hid hb3
    clear hr hb3 hb hown hgrow
    go_wp2
    go_ret2
    exact ⟨_, rfl, HR.out, HB3.out⟩

end Go.Proofs.Ytaldlkokbpidiaa
