/- The model's additive tables: spec.adIs, spec.adTable, by contracts. -/
import Derived.Test.YtgndlpdcebmgmacRA
import Derived.Test.YtgndlpdcebmgmacKP
import Derived.Test.YtgndlpdcebmgmacKL
import Derived.Deep.RegionHeld3
namespace Go.Proofs.Ytgndlpdcebmgmac
open Go.RowKit
/-- One pair of elements. -/
def okP (m : Nat) (t : Nat → Int) (x y : Nat) : Prop := t (addF m (x : Int) (y : Int)).toNat = addF m (t x) (t y)
theorem adI_yes {m : Nat} {t : Nat → Int} (h : ∀ x, x < m → ∀ y, y < m → okP m t x y) : adI m t = true := adI_of fun x y hx hy => h x hx y hy
theorem adI_no {m : Nat} {t : Nat → Int} {x y : Nat} (hx : x < m) (hy : y < m) (h : ¬ okP m t x y) : adI m t = false := by
  cases e : adI m t with
  | false => rfl
  | true =>
    have := adI_at e (El.nat hx) (El.nat hy)
    simp only [Int.toNat_natCast] at this
    exact absurd this h
set_option maxRecDepth 100000 in
set_option maxHeartbeats 4000000 in
/-- spec.adIs. -/
theorem adIs_any (m : Nat) (v : Value) (t : Nat → Int) (w : World) (h : isSz (m : Int) = true) (hv : Sl w v (fl t m)) (ht : ∀ i, i < m → El (m : Int) (t i)) :
    Calls Try.prog 49 #[.int .i64 m, v] w fun e w' => e = .returned (.bool (adI m t)) ∧ Below w.heap.size w w' := by
  have hq := isSz_le (m : Int) h
  obtain ⟨b, off, cap, rfl, hb, hcell⟩ := hv.open (n := m) (by rw [fl_len]) (by omega)
  have HC : Hid (∀ w', Below w.heap.size w w' → ∀ j, j < m → w'.cell? ⟨b, off + j, none⟩ = some (.int .i64 (t j))) := Lib.hid fun w' hbw j hj => by
    rw [hbw.cell (p := ⟨b, off + j, none⟩) hb, hcell j hj, fl_get _ _ _ hj]
  have HP1 := Lib.hid (fun (x y : Nat) (hx : x < m) (hy : y < m) w => fdPlus_any (m : Int) (x : Int) (y : Int) w h (by omega) (by omega) (by omega) (by omega))
  have HP2 := Lib.hid (fun (x y : Nat) (hx : x < m) (hy : y < m) w => fdPlus_any (m : Int) (t x) (t y) w h (ht x hx).1 (ht x hx).2 (ht y hy).1 (ht y hy).2)
  have HS : Hid (∀ x y : Nat, x < m → y < m → ∃ s : Nat, s < m ∧ addF m (x : Int) (y : Int) = s) := Lib.hid fun x y hx hy => by
    have h1 := (El.nat hx).add h (El.nat hy)
    obtain ⟨s, hs⟩ := Int.eq_ofNat_of_zero_le h1.1
    exact ⟨s, by have := h1.2; omega, hs⟩
  have HYES := Lib.hid (adI_yes (m := m) (t := t))
  have HNO := Lib.hid (fun x y hx hy => adI_no (m := m) (t := t) (x := x) (y := y) hx hy)
  clear h ht hv hcell
  generalize adI m t = ans at *
  go_enter Try.func49, Try.ntmps49
  go_wp2_with fail
  go_loopw [9] (fun vi wr => ∃ i : Nat, i ≤ m ∧ vi = .int .i64 i ∧ (∀ x, x < i → ∀ y, y < m → okP m t x y) ∧ Below w.heap.size w wr) (fun vi _ => m - (intOf vi).toNat)
  case atStart => exact ⟨0, Nat.zero_le _, rfl, fun x hx => absurd hx (Nat.not_lt_zero _), Below.refl _ _⟩
  case round =>
    obtain ⟨i, hi, rfl, hok, hbw⟩ := hrel
    have HOK := Lib.hid hok; clear hok
    have HBW := Lib.hid hbw; clear hbw
    by_cases hlt : i < m
    · go_wp2_with fail
      go_loopw [14] (fun vj wr => ∃ j : Nat, j ≤ m ∧ vj = .int .i64 j ∧ (∀ y, y < j → okP m t i y) ∧ Below w.heap.size w wr) (fun vj _ => m - (intOf vj).toNat)
      case atStart => exact ⟨0, Nat.zero_le _, rfl, fun x hx => absurd hx (Nat.not_lt_zero _), HBW.out⟩
      case round =>
        obtain ⟨j, hj, rfl, hoj, hbs⟩ := hrel
        have HOJ := Lib.hid hoj; clear hoj
        have HBS := Lib.hid hbs; clear hbs
        by_cases hlj : j < m
        · obtain ⟨s, hs, hadd⟩ := HS.out i j hlt hlj
          have HA1 := Lib.hid (HP1.out i j hlt hlj)
          have HA2 := Lib.hid (HP2.out i j hlt hlj)
          have HKC : Hid (∀ w', Below wr.heap.size wr w' → w'.cell? ⟨b, off + s, none⟩ = some (.int .i64 (t s)) ∧ w'.cell? ⟨b, off + i, none⟩ = some (.int .i64 (t i)) ∧ w'.cell? ⟨b, off + j, none⟩ = some (.int .i64 (t j))) := Lib.hid fun w' hb' => by
            have hbb := HBS.out.trans (hb'.mono HBS.out.size)
            exact ⟨HC.out _ hbb s hs, HC.out _ hbb i hlt, HC.out _ hbb j hlj⟩
          have HIF : Hid (okP m t i j = (t s = addF m (t i) (t j))) := Lib.hid (by unfold okP; rw [hadd, Int.toNat_natCast])
          rw [hadd] at HA1
          clear hadd
          have hbl : b < wr.heap.size := by have := HBS.out.size; omega
          obtain ⟨S, hS⟩ : ∃ S, t s = S := ⟨_, rfl⟩
          obtain ⟨X, hX⟩ : ∃ X, t i = X := ⟨_, rfl⟩
          obtain ⟨Y, hY⟩ : ∃ Y, t j = Y := ⟨_, rfl⟩
          obtain ⟨Z, hZ⟩ : ∃ Z, addF m X Y = Z := ⟨_, rfl⟩
          rw [hS, hX, hY] at HKC HIF
          rw [hX, hY] at HA2
          rw [hZ] at HA2 HIF
          clear hS hX hY hZ
          have HBZ : Hid (∀ w', Below wr.heap.size wr w' → Below w.heap.size w w') := Lib.hid fun w' hb' => HBS.out.trans (hb'.mono HBS.out.size)
          by_cases hok : S = Z
          · have HG : Hid (okP m t i j) := Lib.hid (by rw [HIF.out]; exact hok)
            subst hok
            clear HIF
            go_wp2_with fail
            go_region_held3 (fun w' => w'.cell? ⟨b, off + s, none⟩ = some (.int .i64 S) ∧ w'.cell? ⟨b, off + i, none⟩ = some (.int .i64 X) ∧ w'.cell? ⟨b, off + j, none⟩ = some (.int .i64 Y))
              (exact HKC.out _ (by (try have hb3 := HB3.out); (try have hb4 := HB4.out); (repeat' (first | (with_reducible assumption) | (with_reducible exact Below.refl _ _) | (with_reducible refine below_drewN ?_ _) | (with_reducible refine Below.drew ?_) | (with_reducible refine Below.alloc ?_ ?_ _) | (with_reducible refine Below.setCell ?_ ?_ _) | (with_reducible refine Below.trans ?_ (Below.mono (by assumption) ?_)) | (with_reducible exact Nat.le_refl _) | (with_reducible assumption) | omega | (simp; omega) | (simp; done)))))
              (first
              | (go_at_call_of 79 (Value.int .i64 (i : Int)); refine (HA1.out _).mono ?_; rintro e w3 ⟨rfl, hb3⟩; obtain ⟨hc3, hf3⟩ := bcell hb3; (try simp only [World.size_drew] at hc3 hf3); have hz3 := hb3.size; (try simp at hz3); have HB3 := Lib.hid hb3; clear hb3)
              | (go_at_call_of 79 (Value.int .i64 X); refine (HA2.out _).mono ?_; rintro e w4 ⟨rfl, hb4⟩; obtain ⟨hc4, hf4⟩ := bcell hb4; (try simp only [World.size_drew] at hc4 hf4); have hz4 := hb4.size; (try simp at hz4); have HB4 := Lib.hid hb4; clear hb4))
            all_goals
              go_wp2
              go_roundw
              case rel =>
                refine ⟨j + 1, by omega, by go_num, ?_, HBZ.out _ (by (try have hb3 := HB3.out); (try have hb4 := HB4.out); (repeat' (first | (with_reducible assumption) | (with_reducible exact Below.refl _ _) | (with_reducible refine below_drewN ?_ _) | (with_reducible refine Below.drew ?_) | (with_reducible refine Below.alloc ?_ ?_ _) | (with_reducible refine Below.setCell ?_ ?_ _) | (with_reducible refine Below.trans ?_ (Below.mono (by assumption) ?_)) | (with_reducible exact Nat.le_refl _) | (with_reducible assumption) | omega | (simp; omega) | (simp; done))))⟩
                intro y hy
                by_cases e : y = j
                · subst e
                  exact HG.out
                · exact HOJ.out y (by omega)
              case measure => simp [intOf]; omega
          · have HG : Hid (ans = false) := Lib.hid (HNO.out i j hlt hlj (by rw [HIF.out]; exact hok))
            have hok' : (S == Z) = false := by simpa using hok
            clear HIF hok
            go_wp2_with fail
            go_region_held3 (fun w' => w'.cell? ⟨b, off + s, none⟩ = some (.int .i64 S) ∧ w'.cell? ⟨b, off + i, none⟩ = some (.int .i64 X) ∧ w'.cell? ⟨b, off + j, none⟩ = some (.int .i64 Y))
              (exact HKC.out _ (by (try have hb3 := HB3.out); (try have hb4 := HB4.out); (repeat' (first | (with_reducible assumption) | (with_reducible exact Below.refl _ _) | (with_reducible refine below_drewN ?_ _) | (with_reducible refine Below.drew ?_) | (with_reducible refine Below.alloc ?_ ?_ _) | (with_reducible refine Below.setCell ?_ ?_ _) | (with_reducible refine Below.trans ?_ (Below.mono (by assumption) ?_)) | (with_reducible exact Nat.le_refl _) | (with_reducible assumption) | omega | (simp; omega) | (simp; done)))))
              (first
              | (go_at_call_of 79 (Value.int .i64 (i : Int)); refine (HA1.out _).mono ?_; rintro e w3 ⟨rfl, hb3⟩; obtain ⟨hc3, hf3⟩ := bcell hb3; (try simp only [World.size_drew] at hc3 hf3); have hz3 := hb3.size; (try simp at hz3); have HB3 := Lib.hid hb3; clear hb3)
              | (go_at_call_of 79 (Value.int .i64 X); refine (HA2.out _).mono ?_; rintro e w4 ⟨rfl, hb4⟩; obtain ⟨hc4, hf4⟩ := bcell hb4; (try simp only [World.size_drew] at hc4 hf4); have hz4 := hb4.size; (try simp at hz4); have HB4 := Lib.hid hb4; clear hb4))
            all_goals
              go_wp2
              go_ret
              exact ⟨by (rw [HG.out]; try rfl), HBZ.out _ (by (try have hb3 := HB3.out); (try have hb4 := HB4.out); (repeat' (first | (with_reducible assumption) | (with_reducible exact Below.refl _ _) | (with_reducible refine below_drewN ?_ _) | (with_reducible refine Below.drew ?_) | (with_reducible refine Below.alloc ?_ ?_ _) | (with_reducible refine Below.setCell ?_ ?_ _) | (with_reducible refine Below.trans ?_ (Below.mono (by assumption) ?_)) | (with_reducible exact Nat.le_refl _) | (with_reducible assumption) | omega | (simp; omega) | (simp; done))))⟩
        · obtain rfl : m = j := by omega
          go_wp2
          go_roundw
          case rel =>
            refine ⟨i + 1, by omega, by go_num, ?_, HBS.out⟩
            intro x hx
            by_cases e : x = i
            · subst e
              exact HOJ.out
            · exact HOK.out x (by omega)
          case measure => simp [intOf]; omega
    · obtain rfl : m = i := by omega
      have HG : Hid (ans = true) := Lib.hid (HYES.out HOK.out)
      go_wp2
      go_ret
      exact ⟨by (rw [HG.out]; try rfl), HBW.out⟩
set_option maxHeartbeats 2000000 in
/-- spec.adTable. -/
theorem adTable_yes (m : Nat) (v : Value) (l : List Int) (w : World) (h : isSz (m : Int) = true) (hv : Sl w v l) (hg : good (m : Int) l = true) :
    Calls Try.prog 25 #[.int .i64 m, v] w fun e w' => ∃ v', e = .returned (.tuple #[v', .bool (adI m (tabF (m : Int) (fun i => l.getD i 0) l.length))]) ∧ Row w' w.heap.size v' (fl (tabF (m : Int) (fun i => l.getD i 0) l.length) m) ∧ Below w.heap.size w w' := by
  have hq := isSz_le (m : Int) h
  have hlen := (good_parts hg).1
  have hp := plGood_any (m : Int) v l w hv (by omega)
  rw [h, hg] at hp
  have HP := Lib.hid hp
  have HV := Lib.hid (fun w' (hb : Below w.heap.size w w') => plValues_any (m : Int) v l w' h (hv.below hb (Nat.le_refl _)) hg)
  have HTE := Lib.hid (fun i (hi : i < m) => tab_el (k := l.length) h (all_el h (good_parts hg).2) i hi)
  simp only [Int.toNat_natCast] at HV
  clear hp hg hv
  generalize tabF (m : Int) (fun i => l.getD i 0) l.length = t at *
  have HA := Lib.hid (fun v w (hs : Sl w v (fl t m)) => adIs_any m v t w h hs (fun i hi => HTE.out i hi))
  clear h HTE
  generalize adI m t = ans at *
  go_enter Try.func25, Try.ntmps25
  go_wp2_with fail
  refine HP.out.mono ?_
  rintro e w1 ⟨rfl, hb1⟩
  have hz_hb1 := hb1.size; (try simp at hz_hb1)
  have HB1 := Lib.hid hb1; clear hb1
  go_wp2_with fail
  refine (HV.out _ HB1.out).mono ?_
  rintro e w3 ⟨v3, rfl, hr3, hb3⟩
  have HR3 := Lib.hid hr3
  have HB3 : Hid (Below w.heap.size w w3) := Lib.hid (HB1.out.trans (hb3.mono hz_hb1)); clear hb3 hr3
  go_wp2_with fail
  refine (HA.out _ _ HR3.out.sl).mono ?_
  rintro e w4 ⟨rfl, hb4⟩
  have HR4 := Lib.hid (HR3.out.below hb4)
  have HB4 : Hid (Below w.heap.size w w4) := Lib.hid (HB3.out.trans (hb4.mono HB3.out.size)); clear hb4
  go_wp2
  go_ret2
  exact ⟨_, rfl, HR4.out.mono hz_hb1, HB4.out⟩
theorem adTable_no (q : Int) (v : Value) (l : List Int) (w : World) (hv : Sl w v l) (hl : l.length ≤ 1048576) (hg : (isSz q && good q l) = false) :
    Calls Try.prog 25 #[.int .i64 q, v] w fun e w' => e = .returned (.tuple #[.slice none 0 0, .bool false]) ∧ Below w.heap.size w w' := by
  have hp := plGood_any q v l w hv hl
  rw [hg] at hp
  have HP := Lib.hid hp
  clear hp hg hv hl
  go_enter Try.func25, Try.ntmps25
  go_wp2_with fail
  refine HP.out.mono ?_
  rintro e w1 ⟨rfl, hb1⟩
  go_wp2
  go_ret2
  exact ⟨rfl, hb1⟩
end Go.Proofs.Ytgndlpdcebmgmac
