/- The steps of a polynomial as a map; a copy of a map; whether it permutes: of the program. -/
import Derived.Test.YtljijnanmpajaaaGreatLB
import Derived.Test.YtljijnanmpajaaaGreatKP
import Derived.Laws.Externs
import Derived.Shelf.SlMaps.Clone
namespace Go.Proofs.YtljijnanmpajaaaGreat
open Go.RowKit Go.Maps
set_option maxHeartbeats 2000000 in
/-- impl.poly.steps. -/
theorem stepsE (m g n cap : Nat) (f : Nat → Int) (w : World) (h : isSz (m : Int) = true) (hg : g < w.heap.size) (he : Els w g (m : Int) f n) (hf : ∀ i, El (m : Int) (f i)) (hn : n ≤ 1000) :
    Calls Tryz.prog 210 #[polyE (m : Int) (.slice (some ⟨g, 0, none⟩) n cap)] w fun e w' => ∃ B, e = .returned (.map (some B)) ∧ w.heap.size ≤ B ∧ B < w'.heap.size ∧ w'.ownsMap Tryz.prog 3 (plainElem (H := Unit) Tryz.prog 3) B m (mp (tabF (m : Int) f n) m) ∧ Below w.heap.size w w' := by
  have hq := isSz_le (m : Int) h
  have hmm := fun (a : Int) w => run_makeMap_some 137 3 3 .i64 a w Tryz.underlying137
  have HT := Lib.hid (fun w' (hb : Below w.heap.size w w') => tableM m g n cap f w' h (by have := hb.size; omega) (he.below hb hg) (fun i _ => hf i) hn)
  have HTE := Lib.hid (fun i (hi : i < m) => tab_el (k := n) h hf i hi)
  generalize tabF (m : Int) f n = t at *
  have HN := Lib.hid (fun k w (hk : k < m) => numberE (m : Int) (t k) w h (HTE.out k hk).1 (HTE.out k hk).2)
  have HSZ := Lib.hid h
  clear he hf h
  go_enter Tryz.func210, Tryz.ntmps210
  go_wp2_with fail
  refine (HT.out _ (by (repeat' (first | (with_reducible assumption) | (with_reducible exact Below.refl _ _) | (with_reducible refine below_drewN ?_ _) | (with_reducible refine Below.drew ?_) | (with_reducible refine Below.alloc ?_ ?_ _) | (with_reducible refine Below.setCell ?_ ?_ _) | (with_reducible refine Below.trans ?_ (Below.mono (by assumption) ?_)) | (with_reducible exact Nat.le_refl _) | (with_reducible assumption) | omega | (simp; omega) | (simp; done))))).mono ?_
  rintro e w3 ⟨g3, rfl, hg3, hk3, he3, hb3⟩
  simp at hg3
  have hgl := hk3.lt
  have hm3 : w3.ownsMap Tryz.prog 3 (plainElem (H := Unit) Tryz.prog 3) (w.heap.size + 1) 0 (mp t 0) := by
    have := ownsMap_below (World.ownsMap_made (H := Unit) (w.alloc (pblk (m : Int) (.slice (some ⟨g, 0, none⟩) n cap))) Tryz.prog 3 (plainElem Tryz.prog 3)) hb3 (by simp)
    simpa [mp] using this
  have HB3 : Hid (Below w.heap.size w w3) := Lib.hid (by (repeat' (first | (with_reducible assumption) | (with_reducible exact Below.refl _ _) | (with_reducible refine below_drewN ?_ _) | (with_reducible refine Below.drew ?_) | (with_reducible refine Below.alloc ?_ ?_ _) | (with_reducible refine Below.setCell ?_ ?_ _) | (with_reducible refine Below.trans ?_ (Below.mono (by assumption) ?_)) | (with_reducible exact Nat.le_refl _) | (with_reducible assumption) | omega | (simp; omega) | (simp; done))))
  have hz3 := hb3.size
  simp at hz3
  clear hb3 hk3
  have HE3 := Lib.hid he3; clear he3
  have HM3 := Lib.hid hm3; clear hm3
  go_wp2_with fail
  go_loopw [13] (fun vi wr => ∃ k : Nat, k ≤ m ∧ vi = .int .i64 k ∧ wr.ownsMap Tryz.prog 3 (plainElem (H := Unit) Tryz.prog 3) (w.heap.size + 1) k (mp t k) ∧ Els wr g3 (m : Int) t m ∧ Below w.heap.size w wr ∧ w3.heap.size ≤ wr.heap.size) (fun vi _ => m - (intOf vi).toNat)
  case atStart => exact ⟨0, Nat.zero_le _, rfl, HM3.out, HE3.out, HB3.out, Nat.le_refl _⟩
  case round =>
    obtain ⟨k, hk, rfl, hm, he, hb, hz⟩ := hrel
    by_cases hlt : k < m
    · obtain ⟨c0, c1, c2, c3, c4, c5, c6⟩ := he k hlt
      have HN' := Lib.hid (fun w => HN.out k w hlt)
      have HTk := Lib.hid (HTE.out k hlt)
      have HE := Lib.hid he; clear he
      have HM := Lib.hid hm; clear hm
      have HB := Lib.hid hb; clear hb
      have hkm : (m : Int) ≤ 16 := hq.2
      have HP : Hid (mp t (k + 1) = (mp t k).put (.int .i64 k) (.lit (.int .i64 (t k)))) := Lib.hid rfl
      go_wp2_with fail
      refine (HN'.out _).mono ?_
      rintro e w5 ⟨rfl, hb5⟩
      have HM5 := Lib.hid (ownsMap_below (HM.out.alloc (eblk (m : Int) (t k))) hb5 (by simp; omega))
      have HE5 := Lib.hid ((HE.out.below (B := wr.heap.size) (w' := w5) (by (repeat' (first | (with_reducible assumption) | (with_reducible exact Below.refl _ _) | (with_reducible refine below_drewN ?_ _) | (with_reducible refine Below.drew ?_) | (with_reducible refine Below.alloc ?_ ?_ _) | (with_reducible refine Below.setCell ?_ ?_ _) | (with_reducible refine Below.trans ?_ (Below.mono (by assumption) ?_)) | (with_reducible exact Nat.le_refl _) | (with_reducible assumption) | omega | (simp; omega) | (simp; done)))) (by omega)))
      have HB5 : Hid (Below w.heap.size w w5) := Lib.hid (HB.out.trans ((show Below wr.heap.size wr w5 by (repeat' (first | (with_reducible assumption) | (with_reducible exact Below.refl _ _) | (with_reducible refine below_drewN ?_ _) | (with_reducible refine Below.drew ?_) | (with_reducible refine Below.alloc ?_ ?_ _) | (with_reducible refine Below.setCell ?_ ?_ _) | (with_reducible refine Below.trans ?_ (Below.mono (by assumption) ?_)) | (with_reducible exact Nat.le_refl _) | (with_reducible assumption) | omega | (simp; omega) | (simp; done)))).mono (by omega)))
      have hz5 := hb5.size
      simp at hz5
      clear hb5
      go_wp2_with (first
        | (at_mapUpdate; refine wpList_mapUpdate_own _ rfl _ _ _ 137 rfl 3 3 Tryz.lawI Tryz.underlying137 _ (w.heap.size + 1) _ _ rfl HM5.out (by unfold maxLen; omega) _ _ _ rfl rfl (keyOf_int_mk Tryz.underlying3 (WalkArith.wf_i64 (by omega))) _ [] (plainElem_int Tryz.underlying3 (WalkArith.wf_i64 (by have := HTk.out.1; have := HTk.out.2; omega))) ?_; intro w6 hm6 hg6)
        | go_in)
      have HM6 := Lib.hid hm6; clear hm6
      have HE6 := Lib.hid (HE5.out.same (hg6.block g3 (by omega) (by simp; omega)))
      have HB6 := Lib.hid (HB5.out.grown hg6 (by omega) (fun j hj => by cases hj; omega))
      have hz6 := hg6.size
      clear hg6
      go_wp2
      go_roundw
      case rel => exact ⟨k + 1, by omega, by go_num, by rw [HP.out]; exact HM6.out, HE6.out, HB6.out, by omega⟩
      case measure => simp [intOf]; omega
    · obtain rfl : m = k := by omega
      have HM := Lib.hid hm; clear hm he
      have HB := Lib.hid hb; clear hb
      go_wp2
      go_ret
      exact ⟨_, rfl, by omega, by omega, HM.out, HB.out⟩

set_option maxHeartbeats 2000000 in
set_option maxRecDepth 100000 in
/-- maps.Clone at map[int]int. -/
theorem cloneM (b n : Nat) (D : DataW Unit) (w : World) (hown : w.ownsMap Tryz.prog 3 (plainElem (H := Unit) Tryz.prog 3) b n D) :
    Calls Tryz.prog 211 #[.map (some b)] w fun e w' => e = .returned (.map (some w.heap.size)) ∧ w'.ownsMap Tryz.prog 3 (plainElem (H := Unit) Tryz.prog 3) w.heap.size n D ∧ w'.ownsMap Tryz.prog 3 (plainElem (H := Unit) Tryz.prog 3) b n D ∧ Below w.heap.size w w' := by
  have hlt := hown.lt
  obtain ⟨es, clock, hb, F, hs, hD⟩ := hown
  have hq := fun w => run_eql_map_nil_sl (P := Tryz.prog) w 137 _ _ (some b) Tryz.underlying137
  go_enter Tryz.func211, Tryz.ntmps211
  go_wp2
  rw [run_callFunc_extern Tryz.func216 (by kernel_rfl) (by kernel_rfl) (by kernel_rfl) (e := Extern.MapsClone.clone) (by kernel_rfl), run_maps_clone_sl w 137 hb]
  simp only [Result.andThen]
  rw [Oper.upon_value]
  go_wp2
  rw [run_typeAssert_map_sl _ 137 _ _ _ _ Tryz.underlying137]
  simp only [Result.andThen]
  rw [Oper.upon_value]
  go_wp2
  go_ret
  exact ⟨rfl, ⟨es, clock, (MapKept.heap_alloc w _).1, F, hs, hD⟩, ⟨es, clock, (Below.heap_alloc _ _ b hlt).trans hb, F, hs, hD⟩, (Below.refl _ w).alloc (Nat.le_refl _) _⟩

theorem left_fst {left : Lit → Bool} {i x : Nat} (hne : i ≠ x) : (fun z : Lit => left z && !z.sameKey (.int .i64 (x : Int))) (.int .i64 (i : Int)) = left (.int .i64 (i : Int)) := by
  have : (Lit.int .i64 (i : Int)).sameKey (.int .i64 (x : Int)) = false := sameKey_ne (int_lit_ne (by omega))
  simp [this]
theorem left_self {left : Lit → Bool} {x : Nat} : (fun z : Lit => left z && !z.sameKey (.int .i64 (x : Int))) (.int .i64 (x : Int)) = false := by
  have : (Lit.int .i64 (x : Int)).sameKey (.int .i64 (x : Int)) = true := WideAt.sameKey_self (show WideAt.IsKeyLit (.int .i64 (x : Int)) from trivial)
  simp [this]
/-- What is missing: those whose places are all still to come. -/
def Miss (t : Nat → Int) (m : Nat) (D : DataW Unit) (left : Lit → Bool) : Prop :=
  (∀ x, x < m → (has D (.int .i64 (x : Nat)) = true ↔ ∀ i, i < m → t i = (x : Int) → left (.int .i64 (i : Nat)) = true)) ∧ ∀ kl, has D kl = true → ∃ x, x < m ∧ kl = .int .i64 (x : Nat)
theorem miss_start (t : Nat → Int) (m : Nat) : Miss t m (mp t m) (has (mp t m)) :=
  ⟨fun x hx => ⟨fun _ i hi _ => by rw [mp_has]; simp [hi], fun _ => by rw [mp_has]; simp [hx]⟩, fun kl h => mp_keys t m kl h⟩
theorem miss_step {t : Nat → Int} {m x : Nat} {D : DataW Unit} {left : Lit → Bool} (h : Miss t m D left) (hx : x < m) : Miss t m (D.del (.int .i64 (t x))) (fun z => left z && !z.sameKey (.int .i64 (x : Nat))) := by
  constructor
  · intro y hy
    by_cases e : t x = (y : Int)
    · rw [e, has_del_same]
      constructor
      · intro h; cases h
      · intro h
        have h1 := h x hx e
        rw [left_self] at h1
        cases h1
    · rw [has_del_other (int_lit_ne (fun e' => e e'.symm)), h.1 y hy]
      constructor
      · intro h1 i hi e2
        rw [left_fst (fun e3 => e (by rw [← e3]; exact e2))]
        exact h1 i hi e2
      · intro h1 i hi e2
        have h2 := h1 i hi e2
        rw [left_fst (fun e3 => e (by rw [← e3]; exact e2))] at h2
        exact h2
  · intro kl hk
    by_cases e : kl = .int .i64 (t x)
    · rw [e, has_del_same] at hk
      cases hk
    · rw [has_del_other e] at hk
      exact h.2 kl hk
theorem miss_end {t : Nat → Int} {m : Nat} {D : DataW Unit} {left : Lit → Bool} (h : Miss t m D left) (hl : ∀ kl, left kl = false) (hc : Canon D) : ((Maps.size D : Int) == 0) = onto t m := by
  have h1 := size_none hc
  cases ho : onto t m with
  | true =>
    have h2 := onto_iff.1 ho
    have : Maps.size D = 0 := h1.2 fun kl => by
      cases hk : has D kl with
      | false => rfl
      | true =>
        obtain ⟨x, hx, rfl⟩ := h.2 kl hk
        obtain ⟨i, hi, e⟩ := h2 x hx
        have := (h.1 x hx).1 hk i hi e
        rw [hl] at this
        cases this
    simp [this]
  | false =>
    have : Maps.size D ≠ 0 := fun e => by
      have h3 := h1.1 e
      have : onto t m = true := onto_iff.2 fun x hx => Classical.byContradiction fun hno => by
        have := (h.1 x hx).2 fun i hi e => absurd ⟨i, hi, e⟩ hno
        rw [h3] at this
        cases this
      rw [ho] at this
      cases this
    simp
    omega
set_option maxHeartbeats 2000000 in
set_option maxRecDepth 100000 in
/-- impl.poly.permutes. -/
theorem permutesE (m g n cap : Nat) (f : Nat → Int) (w : World) (h : isSz (m : Int) = true) (hg : g < w.heap.size) (he : Els w g (m : Int) f n) (hf : ∀ i, El (m : Int) (f i)) (hn : n ≤ 1000) :
    Calls Tryz.prog 195 #[polyE (m : Int) (.slice (some ⟨g, 0, none⟩) n cap)] w fun e w' => e = .returned (.bool (onto (tabF (m : Int) f n) m)) ∧ Below w.heap.size w w' := by
  have hq := isSz_le (m : Int) h
  have HT := Lib.hid (fun w' (hb : Below w.heap.size w w') => stepsE m g n cap f w' h (by have := hb.size; omega) (he.below hb hg) hf hn)
  generalize tabF (m : Int) f n = t at *
  clear he hf h
  go_enter Tryz.func195, Tryz.ntmps195
  go_wp2_with fail
  refine (HT.out _ (by (repeat' (first | (with_reducible assumption) | (with_reducible exact Below.refl _ _) | (with_reducible refine below_drewN ?_ _) | (with_reducible refine Below.drew ?_) | (with_reducible refine Below.alloc ?_ ?_ _) | (with_reducible refine Below.setCell ?_ ?_ _) | (with_reducible refine Below.trans ?_ (Below.mono (by assumption) ?_)) | (with_reducible exact Nat.le_refl _) | (with_reducible assumption) | omega | (simp; omega) | (simp; done))))).mono ?_
  rintro e w2 ⟨B, rfl, hB0, hB1, hm2, hb2⟩
  simp at hB0
  have hz2 := hb2.size
  simp at hz2
  have HB2 : Hid (Below w.heap.size w w2) := Lib.hid (by (repeat' (first | (with_reducible assumption) | (with_reducible exact Below.refl _ _) | (with_reducible refine below_drewN ?_ _) | (with_reducible refine Below.drew ?_) | (with_reducible refine Below.alloc ?_ ?_ _) | (with_reducible refine Below.setCell ?_ ?_ _) | (with_reducible refine Below.trans ?_ (Below.mono (by assumption) ?_)) | (with_reducible exact Nat.le_refl _) | (with_reducible assumption) | omega | (simp; omega) | (simp; done))))
  have HM2 := Lib.hid hm2; clear hm2 hb2
  go_wp2_with fail
  refine (cloneM B m _ _ HM2.out).mono ?_
  rintro e w3 ⟨rfl, hc3, hm3, hb3⟩
  have hz3 := hb3.size
  have hC3 := hc3.lt
  have HB3 : Hid (Below w.heap.size w w3) := Lib.hid (HB2.out.trans (hb3.mono (by omega)))
  clear hb3
  have HC3 := Lib.hid hc3; clear hc3
  have HM3 := Lib.hid hm3; clear hm3
  have hBC : B ≠ w2.heap.size := by omega
  generalize w2.heap.size = C at *
  go_wp2_with (first
    | (at_range; refine wpList_range_own _ rfl _ 137 rfl 3 3 Tryz.lawI Tryz.underlying137 _ B m _ rfl HM3.out ?_; intro w4 hrg0 hg0 hs0)
    | go_in)
  have HC4 := Lib.hid (HC3.out.kept hg0 (by simp))
  have HB4 := Lib.hid (HB3.out.grown hg0 (by omega) (fun j hj => by cases hj))
  have HR4 := Lib.hid hrg0
  clear hrg0 hg0
  go_frame
  go_loopw [6] (fun _ wr => ∃ (left : Lit → Bool) (cnt : Nat) (D : DataW Unit), wr.ranges Tryz.prog 3 (plainElem (H := Unit) Tryz.prog 3) B w3.heap.size m (mp t m) left cnt ∧ wr.ownsMap Tryz.prog 3 (plainElem (H := Unit) Tryz.prog 3) C m D ∧ Miss t m D left ∧ Below w.heap.size w wr) (fun _ wr => wr.rangeLeft B w3.heap.size)
  case atStart => exact ⟨_, _, _, HR4.out, HC4.out, miss_start t m, HB4.out⟩
  case round =>
    obtain ⟨left, cnt, D, hrg, hc, hmiss, hb⟩ := hrel
    have HMS := Lib.hid hmiss; clear hmiss
    have HC := Lib.hid hc; clear hc
    have HB := Lib.hid hb; clear hb
    go_wp2_with (first
      | (at_next; refine wpList_next_ranges_ii _ rfl _ rfl 3 3 .i64 .i64 Tryz.lawI Tryz.underlying3 Tryz.underlying3 B w3.heap.size m _ _ _ rfl hrg ?_ ?_)
      | go_in)
    · intro _ hl0
      have HE := Lib.hid (miss_end HMS.out hl0 (HC.out.canon Tryz.lawI))
      go_wp2_with (first
        | (at_len; refine wpList_len_own _ rfl _ 137 rfl 3 3 Tryz.underlying137 _ C m D rfl HC.out ?_)
        | go_in)
      go_ret
      exact ⟨ret_bool HE.out, HB.out⟩
    · intro x c w5 cnt1 hwx hwc hlx hat hrg1 hlt hg1 hs1 hen
      obtain ⟨y, hy, ey⟩ := mp_keys t m _ (has_true_of_atKey hat)
      obtain rfl : x = (y : Int) := by cases ey; rfl
      have hc1 : c = t y := by
        have := hat .nil
        rw [mp_at t m y hy] at this
        cases this
        rfl
      subst hc1
      have HC5 := Lib.hid (HC.out.kept hg1 (by simp; omega))
      have HB5 := Lib.hid (HB.out.grown hg1 (by have := HB.out.size; omega) (fun j hj => by cases hj; have := HB3.out.size; omega))
      go_wp2_with (first
        | (at_delete; refine wpList_delete_own _ rfl _ _ 137 3 rfl 3 Tryz.lawI Tryz.underlying137 _ C m D rfl HC5.out _ _ rfl (keyOf_int_mk Tryz.underlying3 hwc) ?_; intro w6 hc6 hturn; go_frame)
        | go_in)
      have HR6 := Lib.hid (hrg1.kept hturn.grown (by simp; omega) (by simp; omega))
      have HB6 := Lib.hid (HB5.out.grown hturn.grown (by have := HB5.out.size; omega) (fun j hj => by cases hj; omega))
      have HS := Lib.hid (miss_step HMS.out hy)
      go_roundw
      case rel => exact ⟨_, cnt1, _, HR6.out, hc6, HS.out, HB6.out⟩
      case measure => rw [HR6.out.left_eq, hrg.left_eq]; exact hlt
end Go.Proofs.YtljijnanmpajaaaGreat
