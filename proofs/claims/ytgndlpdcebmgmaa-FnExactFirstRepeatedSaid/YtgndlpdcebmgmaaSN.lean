/- FirstRepeated, of both, by contracts; the walk of its law. -/
import Derived.Test.YtgndlpdcebmgmaaSJ
namespace Go.Proofs.Ytgndlpdcebmgmaa
open Go.RowKit
theorem Row.lit_3 (w : World) (a b c : Int) : Row (w.alloc (.cells #[.int .i64 a, .int .i64 b, .int .i64 c] 3)) w.heap.size (.slice (some ⟨w.heap.size, 0, none⟩) 3 3) [a, b, c] := by
  have := World.ownsRow_lit (base := w.heap.size) (e := 3) (size := 1) w #[.int .i64 a, .int .i64 b, .int .i64 c] 3 (Nat.le_refl _) (by unfold maxLen; omega) rfl
  exact this
set_option maxRecDepth 100000 in
set_option maxHeartbeats 4000000 in
/-- impl.poly.firstRepeated. -/
theorem polyFirstE (m : Nat) (v : Value) (t : Nat → Int) (r : List Int) (o : Bool) (w : World) (h : isSz (m : Int) = true) (hv : IsP w v m t) (hF : Frp m t r o) :
    Calls Try.prog 55 #[polyE (m : Int) v] w fun e w' => ∃ v', e = .returned (.tuple #[v', .bool o]) ∧ Row w' w.heap.size v' r ∧ Below w.heap.size w w' := by
  have hq := isSz_two h
  have htel : ∀ i, i < m → El (m : Int) (t i) := by
    obtain ⟨g, k, cap, f, rfl, hg, he, hf, hk, htab⟩ := hv.tab h
    exact fun i hi => by rw [← htab i hi]; exact hor_el h (El.nat hi) (fun j _ => hf j) k (Nat.le_refl _)
  have HTB := Lib.hid (fun w' (hb : Below w.heap.size w w') => tableT m v t w' h (hv.below hb (Nat.le_refl _)))
  obtain ⟨a0, k0, c0, rfl⟩ := hv.slice
  have HNZ := Lib.hid (fun w => nonzeroE m w h)
  have HEF := Lib.hid (fun (a : Nat) (ha : a < m) g w' (hg : g < w'.heap.size) (he : Els w' g (m : Int) t m) => elFirstE m a g m t w' h ha hg he htel (hit m t a) (fun _ _ => rfl))
  have HNU := Lib.hid (fun (a : Nat) (ha : a < m) w => numberE (m : Int) (a : Int) w h (by omega) (by omega))
  have HF := Lib.hid hF
  clear h hv hF htel
  go_enter Try.func55, Try.ntmps55
  go_wp2_with fail
  refine (HTB.out _ (by (repeat' (first | (with_reducible assumption) | (with_reducible exact Below.refl _ _) | (with_reducible refine below_drewN ?_ _) | (with_reducible refine Below.drew ?_) | (with_reducible refine Below.alloc ?_ ?_ _) | (with_reducible refine Below.setCell ?_ ?_ _) | (with_reducible refine Below.trans ?_ (Below.mono (by assumption) ?_)) | (with_reducible exact Nat.le_refl _) | (with_reducible assumption) | omega | (simp; omega) | (simp; done))))).mono ?_
  rintro e w1 ⟨g1, rfl, hg1, hk1, he1, hb1⟩
  have hgl1 := hk1.lt
  have HE1 := Lib.hid he1
  have h0 := (hb1.block w.heap.size (by simp)).trans (heap_alloc_new w (pblk (m : Int) (.slice a0 k0 c0)))
  obtain ⟨x0, x1, x2, x3, xf, xl⟩ := cells4 h0
  have HB1 : Hid (Below w.heap.size w w1) := Lib.hid (by (repeat' (first | (with_reducible assumption) | (with_reducible exact Below.refl _ _) | (with_reducible refine below_drewN ?_ _) | (with_reducible refine Below.drew ?_) | (with_reducible refine Below.alloc ?_ ?_ _) | (with_reducible refine Below.setCell ?_ ?_ _) | (with_reducible refine Below.trans ?_ (Below.mono (by assumption) ?_)) | (with_reducible exact Nat.le_refl _) | (with_reducible assumption) | omega | (simp; omega) | (simp; done))))
  have l1 : w.heap.size < w1.heap.size := by have := hb1.size; simp at this; omega
  clear hk1 he1 hb1 h0
  go_wp2_with fail
  refine (HNZ.out _).mono ?_
  rintro e w2 ⟨g2, cp2, rfl, hg2, hgl2, he2, hb2⟩
  have HE2 := Lib.hid he2
  have HT2 := Lib.hid (HE1.out.below hb2 hgl1)
  have HB2 : Hid (Below w.heap.size w w2) := Lib.hid (by have hb1 := HB1.out; (repeat' (first | (with_reducible assumption) | (with_reducible exact Below.refl _ _) | (with_reducible refine below_drewN ?_ _) | (with_reducible refine Below.drew ?_) | (with_reducible refine Below.alloc ?_ ?_ _) | (with_reducible refine Below.setCell ?_ ?_ _) | (with_reducible refine Below.trans ?_ (Below.mono (by assumption) ?_)) | (with_reducible exact Nat.le_refl _) | (with_reducible assumption) | omega | (simp; omega) | (simp; done))))
  have hz2 := hb2.size
  clear he2 hb2 x0 x1 x2 x3 xf
  go_wp2_with fail
  go_loopw [16] (fun vi wr => ∃ i : Nat, i ≤ m - 1 ∧ vi = .int .i64 i ∧ (∀ a', 1 ≤ a' → a' < i + 1 → ∀ x y, x < y → y < m → hit m t a' x y = false) ∧ Below w2.heap.size w2 wr) (fun vi _ => (m - 1) - (intOf vi).toNat)
  case atStart => exact ⟨0, Nat.zero_le _, rfl, fun a' h1 h2 => by omega, Below.refl _ _⟩
  case round =>
    obtain ⟨i, hi, rfl, hno, hbw⟩ := hrel
    have HNO := Lib.hid hno
    have HBR := Lib.hid hbw
    have hzr := hbw.size
    clear hno hbw
    by_cases hlt : i < m - 1
    · have hel := (HE2.out.below HBR.out hgl2) (i + 1) (by omega)
      rw [show (i + 1) * 7 = 7 + i * 7 by omega] at hel
      obtain ⟨c0, c1, c2, c3, c4, c5, c6⟩ := hel
      have hg2r : g2 < wr.heap.size := by omega
      have HAA : Hid (i + 1 < m) := Lib.hid (by omega)
      have HEFa := Lib.hid (HEF.out (i + 1) HAA.out)
      have HNUa := Lib.hid (HNU.out (i + 1) HAA.out)
      have HA1 : Hid (1 ≤ i + 1) := Lib.hid (by omega)
      have HBX : Hid (∀ w', Below wr.heap.size wr w' → Below w.heap.size w w' ∧ Below w2.heap.size w2 w') := Lib.hid fun w' hb => by
        have h1 := HBR.out.trans (hb.mono hzr)
        exact ⟨HB2.out.trans (h1.mono HB2.out.size), h1⟩
      have HT3 : Hid (∀ w', Below wr.heap.size wr w' → Els w' g1 (m : Int) t m ∧ g1 < w'.heap.size) := Lib.hid fun w' hb => ⟨HT2.out.below (HBX.out w' hb).2 (by omega), by have := hb.size; omega⟩
      obtain ⟨a, ha⟩ : ∃ a, a = i + 1 := ⟨_, rfl⟩
      rw [← ha] at HEFa HNUa HA1 c3 c4 c5 c6 HAA HNO
      have HAI := Lib.hid ha
      clear ha
      go_wp2_with fail
      refine (HEFa.out g1 _ (HT3.out _ (by (repeat' (first | (with_reducible assumption) | (with_reducible exact Below.refl _ _) | (with_reducible refine below_drewN ?_ _) | (with_reducible refine Below.drew ?_) | (with_reducible refine Below.alloc ?_ ?_ _) | (with_reducible refine Below.setCell ?_ ?_ _) | (with_reducible refine Below.trans ?_ (Below.mono (by assumption) ?_)) | (with_reducible exact Nat.le_refl _) | (with_reducible assumption) | omega | (simp; omega) | (simp; done))))).2 (HT3.out _ (by (repeat' (first | (with_reducible assumption) | (with_reducible exact Below.refl _ _) | (with_reducible refine below_drewN ?_ _) | (with_reducible refine Below.drew ?_) | (with_reducible refine Below.alloc ?_ ?_ _) | (with_reducible refine Below.setCell ?_ ?_ _) | (with_reducible refine Below.trans ?_ (Below.mono (by assumption) ?_)) | (with_reducible exact Nat.le_refl _) | (with_reducible assumption) | omega | (simp; omega) | (simp; done))))).1).mono ?_
      rintro e w5 ⟨hcase, hb5⟩
      have HB5 : Hid (Below wr.heap.size wr w5) := Lib.hid (by (repeat' (first | (with_reducible assumption) | (with_reducible exact Below.refl _ _) | (with_reducible refine below_drewN ?_ _) | (with_reducible refine Below.drew ?_) | (with_reducible refine Below.alloc ?_ ?_ _) | (with_reducible refine Below.setCell ?_ ?_ _) | (with_reducible refine Below.trans ?_ (Below.mono (by assumption) ?_)) | (with_reducible exact Nat.le_refl _) | (with_reducible assumption) | omega | (simp; omega) | (simp; done))))
      have hbx := (hb5.block wr.heap.size (by simp)).trans (heap_alloc_new wr (eblk (m : Int) (a : Int)))
      obtain ⟨s0, s1, s2, s3, s4, s5, s6, sf, sl⟩ := seven hbx
      clear hb5 hbx c0 c1 c2 c3 c4 c5 c6
      rcases hcase with ⟨x, y, hxy, hym, hr1, hr2, hhit, rfl⟩ | ⟨hnone, rfl⟩
      · obtain ⟨hr, ho⟩ := HF.out.yes a x y HA1.out HAA.out hxy hym (fun a' h1 h2 => HNO.out a' h1 h2) hr1 hr2 hhit
        have HR := Lib.hid hr
        have HO := Lib.hid ho
        clear hr1 hr2 hhit hr ho
        go_wp2_with fail
        refine (HNUa.out _).mono ?_
        rintro e w6 ⟨rfl, hb6⟩
        have HBF := Lib.hid (HBX.out w6 (by have hb5 := HB5.out; (repeat' (first | (with_reducible assumption) | (with_reducible exact Below.refl _ _) | (with_reducible refine below_drewN ?_ _) | (with_reducible refine Below.drew ?_) | (with_reducible refine Below.alloc ?_ ?_ _) | (with_reducible refine Below.setCell ?_ ?_ _) | (with_reducible refine Below.trans ?_ (Below.mono (by assumption) ?_)) | (with_reducible exact Nat.le_refl _) | (with_reducible assumption) | omega | (simp; omega) | (simp; done))))).1
        have HLIT := Lib.hid (Row.lit_3 w6 (a : Int) (x : Int) (y : Int))
        clear hb6
        go_wp2
        go_ret2
        have hbf := HBF.out
        have hzf := hbf.size
        exact ⟨_, by rw [HO.out]; rfl, by rw [HR.out]; exact HLIT.out.mono hbf.size, by (repeat' (first | (with_reducible assumption) | (with_reducible exact Below.refl _ _) | (with_reducible refine below_drewN ?_ _) | (with_reducible refine Below.drew ?_) | (with_reducible refine Below.alloc ?_ ?_ _) | (with_reducible refine Below.setCell ?_ ?_ _) | (with_reducible refine Below.trans ?_ (Below.mono (by assumption) ?_)) | (with_reducible exact Nat.le_refl _) | (with_reducible assumption) | omega | (simp; omega) | (simp; done)))⟩
      · have HG : Hid (∀ a', 1 ≤ a' → a' < i + 1 + 1 → ∀ x y, x < y → y < m → hit m t a' x y = false) := Lib.hid fun a' h1 h2 => by
          have hai := HAI.out
          by_cases e : a' = a
          · subst e; exact hnone
          · exact HNO.out a' h1 (by omega)
        clear hnone
        have HBF := Lib.hid (HBX.out w5 HB5.out).2
        go_wp2
        go_roundw
        case rel => exact ⟨i + 1, by omega, by go_num, HG.out, HBF.out⟩
        case measure => (simp [intOf]; try omega)
    · obtain rfl : i = m - 1 := by omega
      obtain ⟨hr, ho⟩ := HF.out.no fun a h1 h2 x y => HNO.out a h1 (by omega) x y
      have HR := Lib.hid hr
      have HO := Lib.hid ho
      have HBF := Lib.hid (HB2.out.trans (HBR.out.mono HB2.out.size))
      clear hr ho
      go_wp2
      go_ret2
      exact ⟨_, by rw [HO.out]; rfl, by rw [HR.out]; exact Row.nil _ _, HBF.out⟩
theorem spec_FirstRepeated_no (q : Int) (v : Value) (l : List Int) (w : World) (hv : Sl w v l) (hl : l.length ≤ 1048576) (hg : (isSz q && good q l) = false) :
    Calls Try.prog 29 #[.int .i64 q, v] w fun e w' => e = .returned (.tuple #[.slice none 0 0, .bool false]) ∧ Below w.heap.size w w' := by
  have hp := plGood_any q v l w hv hl
  rw [hg] at hp
  have HP := Lib.hid hp
  clear hp hg hv hl
  go_enter Try.func29, Try.ntmps29
  go_wp2_with fail
  refine HP.out.mono ?_
  rintro e w1 ⟨rfl, hb1⟩
  have hz_hb1 := hb1.size; (try simp at hz_hb1)
  have HB1 := Lib.hid hb1; clear hb1
  go_wp2_with fail
  go_ret2
  have hb1 := HB1.out
  exact ⟨rfl, by (repeat' (first | (with_reducible assumption) | (with_reducible exact Below.refl _ _) | (with_reducible refine below_drewN ?_ _) | (with_reducible refine Below.drew ?_) | (with_reducible refine Below.alloc ?_ ?_ _) | (with_reducible refine Below.setCell ?_ ?_ _) | (with_reducible refine Below.trans ?_ (Below.mono (by assumption) ?_)) | (with_reducible exact Nat.le_refl _) | (with_reducible assumption) | omega | (simp; omega) | (simp; done)))⟩
theorem impl_FirstRepeated_no (q : Int) (v : Value) (l : List Int) (w : World) (hv : Sl w v l) (hl : l.length ≤ 1048576) (hg : (isSz q && good q l) = false) :
    Calls Try.prog 30 #[.int .i64 q, v] w fun e w' => e = .returned (.tuple #[.slice none 0 0, .bool false]) ∧ Below w.heap.size w w' := by
  have HP := Lib.hid (validPoly_no q v l w hv hl hg)
  clear hg hv hl
  go_enter Try.func30, Try.ntmps30
  go_wp2_with fail
  refine HP.out.mono ?_
  rintro e w1 ⟨rfl, hb1⟩
  have hz_hb1 := hb1.size; (try simp at hz_hb1)
  have HB1 := Lib.hid hb1; clear hb1
  go_wp2_with fail
  go_ret2
  have hb1 := HB1.out
  exact ⟨rfl, by (repeat' (first | (with_reducible assumption) | (with_reducible exact Below.refl _ _) | (with_reducible refine below_drewN ?_ _) | (with_reducible refine Below.drew ?_) | (with_reducible refine Below.alloc ?_ ?_ _) | (with_reducible refine Below.setCell ?_ ?_ _) | (with_reducible refine Below.trans ?_ (Below.mono (by assumption) ?_)) | (with_reducible exact Nat.le_refl _) | (with_reducible assumption) | omega | (simp; omega) | (simp; done)))⟩
set_option maxRecDepth 100000 in
set_option maxHeartbeats 4000000 in
theorem impl_FirstRepeated_yes (m : Nat) (v : Value) (l : List Int) (r : List Int) (o : Bool) (w : World) (h : isSz (m : Int) = true) (hv : Sl w v l) (hg : good (m : Int) l = true) (hF : Frp m (tbl m l) r o) :
    Calls Try.prog 30 #[.int .i64 m, v] w fun e w' => ∃ v', e = .returned (.tuple #[v', .bool o]) ∧ Row w' w.heap.size v' r ∧ Below w.heap.size w w' := by
  have HP := Lib.hid (validPolyT m v l w h hv hg)
  have HS := Lib.hid (fun v' w' (hp : IsP w' v' m (tbl m l)) => polyFirstE m v' (tbl m l) r o w' h hp hF)
  clear h hv hg hF
  generalize tbl m l = t at *
  go_enter Try.func30, Try.ntmps30
  go_wp2_with fail
  refine HP.out.mono ?_
  rintro e w1 ⟨v1, rfl, hp1, hb1⟩
  obtain ⟨a1, k1, c1, rfl⟩ := hp1.slice
  have HP1 := Lib.hid hp1; clear hp1
  have hz_hb1 := hb1.size; (try simp at hz_hb1)
  have HB1 := Lib.hid hb1; clear hb1
  go_wp2_with fail
  refine (HS.out _ _ (HP1.out.below (B := w1.heap.size) (by (repeat' (first | (with_reducible assumption) | (with_reducible exact Below.refl _ _) | (with_reducible refine below_drewN ?_ _) | (with_reducible refine Below.drew ?_) | (with_reducible refine Below.alloc ?_ ?_ _) | (with_reducible refine Below.setCell ?_ ?_ _) | (with_reducible refine Below.trans ?_ (Below.mono (by assumption) ?_)) | (with_reducible exact Nat.le_refl _) | (with_reducible assumption) | omega | (simp; omega) | (simp; done)))) (Nat.le_refl _))).mono ?_
  rintro e w2 ⟨v2, rfl, hr2, hb2⟩
  have HB2 : Hid (Below w.heap.size w w2) := Lib.hid (by have hb1 := HB1.out; (repeat' (first | (with_reducible assumption) | (with_reducible exact Below.refl _ _) | (with_reducible refine below_drewN ?_ _) | (with_reducible refine Below.drew ?_) | (with_reducible refine Below.alloc ?_ ?_ _) | (with_reducible refine Below.setCell ?_ ?_ _) | (with_reducible refine Below.trans ?_ (Below.mono (by assumption) ?_)) | (with_reducible exact Nat.le_refl _) | (with_reducible assumption) | omega | (simp; omega) | (simp; done))))
  have HR2 := Lib.hid (hr2.mono (B' := w.heap.size) (by first | omega | (simp; omega))); clear hb2 hr2
  go_wp2
  go_ret2
  exact ⟨_, rfl, HR2.out, HB2.out⟩
set_option maxRecDepth 100000 in
set_option maxHeartbeats 4000000 in
theorem spec_FirstRepeated_yes (m : Nat) (v : Value) (l : List Int) (r : List Int) (o : Bool) (w : World) (h : isSz (m : Int) = true) (hv : Sl w v l) (hg : good (m : Int) l = true) (hF : Frp m (tbl m l) r o) :
    Calls Try.prog 29 #[.int .i64 m, v] w fun e w' => ∃ v', e = .returned (.tuple #[v', .bool o]) ∧ Row w' w.heap.size v' r ∧ Below w.heap.size w w' := by
  have hq := isSz_two h
  have hlen := (good_parts hg).1
  have hp := plGood_any (m : Int) v l w hv (by omega)
  rw [h, hg] at hp
  have HP := Lib.hid hp
  have HV : Hid (∀ w', Below w.heap.size w w' → Calls Try.prog 40 #[.int .i64 m, v] w' fun e w'' => ∃ v', e = .returned v' ∧ Row w'' w'.heap.size v' (fl (tbl m l) m) ∧ Below w'.heap.size w' w'') := Lib.hid fun w' hb => by
    have := plValues_any (m : Int) v l w' h (hv.below hb (Nat.le_refl _)) hg
    rw [Int.toNat_natCast] at this
    exact this
  have HTE := tbl_el h hg
  have HD := Lib.hid (fun (a : Nat) (ha : a < m) v' w' (hs : Sl w' v' (fl (tbl m l) m)) => dfTable_any m a v' (tbl m l) w' h hs HTE ha)
  have HPL := Lib.hid (fun (x a : Nat) (hx : x < m) (ha : a < m) w => fdPlus_any (m : Int) (x : Int) (a : Int) w h (by omega) (by omega) (by omega) (by omega))
  have HS : Hid (∀ x a : Nat, x < m → a < m → ∃ s : Nat, s < m ∧ addF m (x : Int) (a : Int) = s) := Lib.hid fun x a hx ha => by
    have h1 := El.add h (El.nat hx) (El.nat ha)
    obtain ⟨s, hs⟩ := Int.eq_ofNat_of_zero_le h1.1
    exact ⟨s, by have := h1.2; omega, hs⟩
  have HF := Lib.hid hF
  clear hp h hg hv hF HTE
  generalize tbl m l = t at *
  go_enter Try.func29, Try.ntmps29
  go_wp2_with fail
  refine HP.out.mono ?_
  rintro e w1 ⟨rfl, hb1⟩
  have hz_hb1 := hb1.size; (try simp at hz_hb1)
  have HB1 := Lib.hid hb1; clear hb1
  go_wp2_with fail
  refine (HV.out _ HB1.out).mono ?_
  rintro e w3 ⟨v3, rfl, hr3, hb3⟩
  have HR3 := Lib.hid hr3
  have HB3 : Hid (Below w.heap.size w w3) := Lib.hid (HB1.out.trans (hb3.mono hz_hb1)); clear hb3 hr3
  go_wp2_with fail
  go_loopw [7] (fun va wr => ∃ a : Nat, 1 ≤ a ∧ a ≤ m ∧ va = .int .i64 a ∧ (∀ a', 1 ≤ a' → a' < a → ∀ x y, x < y → y < m → hit m t a' x y = false) ∧ Below w3.heap.size w3 wr) (fun va _ => m - (intOf va).toNat)
  case atStart => exact ⟨1, Nat.le_refl _, by omega, rfl, fun a' h1 h2 => by omega, Below.refl _ _⟩
  case round =>
    obtain ⟨a, ha1, ham, rfl, hno, hbw⟩ := hrel
    have HNO := Lib.hid hno
    have HBR := Lib.hid hbw
    have hzr := hbw.size
    clear hno hbw
    by_cases hlt : a < m
    · have HDa := Lib.hid (HD.out a hlt)
      have HPa := Lib.hid (fun x hx => HPL.out x a hx hlt)
      have HSa := Lib.hid (fun x hx => HS.out x a hx hlt)
      have HH : Hid (∀ x y, hit m t a x y = (decide (dft m t a x = dft m t a y) && !(decide (m % 2 = 0) && decide (addF m x a = (y : Int))))) := Lib.hid fun _ _ => rfl
      have HFY := Lib.hid (fun x y c1 c2 c3 c4 c5 => HF.out.yes a x y ha1 hlt c1 c2 HNO.out c3 c4 c5)
      have HNX : Hid ((∀ x y, x < y → y < m → hit m t a x y = false) → ∀ a', 1 ≤ a' → a' < a + 1 → ∀ x y, x < y → y < m → hit m t a' x y = false) := Lib.hid fun hh a' h1 h2 => by
        by_cases e : a' = a
        · subst e; exact hh
        · exact HNO.out a' h1 (by omega)
      obtain ⟨H, hH⟩ : ∃ H : Nat → Nat → Bool, hit m t a = H := ⟨_, rfl⟩
      have hH2 : ∀ x y, hit m t a x y = H x y := fun x y => by rw [hH]
      simp only [hH2] at HH HFY HNX
      clear hH hH2
      generalize dft m t a = D at *
      go_wp2_with fail
      refine (HDa.out _ _ ((HR3.out.below HBR.out).sl)).mono ?_
      rintro e w4 ⟨v4, rfl, hr4, hb4⟩
      obtain ⟨g4, cp4, hv4, hg4, hgl4⟩ := hr4.form (by rw [fl_len]; omega)
      rw [fl_len] at hv4
      subst hv4
      have HC4 : Hid (∀ j, j < m → w4.cell? ⟨g4, j, none⟩ = some (.int .i64 (D j))) := Lib.hid fun j hj => by
        have := Row.cell (l := fl D m) (cap := cp4) (by rw [fl_len]; exact hr4) j (by rw [fl_len]; exact hj)
        rwa [fl_get _ _ _ hj] at this
      have HBA : Hid (∀ w', Below w4.heap.size w4 w' → Below w.heap.size w w' ∧ Below w3.heap.size w3 w') := Lib.hid fun w' hb => by
        have h1 := HBR.out.trans ((hb4.trans (hb.mono hb4.size)).mono hzr)
        exact ⟨HB3.out.trans (h1.mono HB3.out.size), h1⟩
      clear hr4 hb4
      go_wp2_with fail
      go_loopw [29] (fun vx wr => ∃ x : Nat, x ≤ m ∧ vx = .int .i64 x ∧ (∀ x', x' < x → ∀ y', x' < y' → y' < m → H x' y' = false) ∧ Below w4.heap.size w4 wr) (fun vx _ => m - (intOf vx).toNat)
      case atStart => exact ⟨0, Nat.zero_le _, rfl, fun x' hx' => absurd hx' (Nat.not_lt_zero _), Below.refl _ _⟩
      case round =>
        obtain ⟨x, hxm, rfl, hnx, hbx⟩ := hrel
        have HNXX := Lib.hid hnx
        have HBRX := Lib.hid hbx
        clear hnx hbx
        by_cases hltx : x < m
        · go_wp2_with fail
          go_loopw [10] (fun vy wr => ∃ y : Nat, x + 1 ≤ y ∧ y ≤ m ∧ vy = .int .i64 y ∧ (∀ y', x < y' → y' < y → H x y' = false) ∧ Below w4.heap.size w4 wr) (fun vy _ => m - (intOf vy).toNat)
          case atStart => exact ⟨x + 1, Nat.le_refl _, by omega, by go_num, fun y' h1 h2 => by omega, HBRX.out⟩
          case round =>
            obtain ⟨y, hxy, hym, rfl, hny, hby⟩ := hrel
            have HNY := Lib.hid hny
            have HBY := Lib.hid hby
            have hzy := hby.size
            clear hny hby
            by_cases hly : y < m
            · have HBX : Hid (∀ w', Below wr.heap.size wr w' → Below w.heap.size w w' ∧ Below w4.heap.size w4 w') := Lib.hid fun w' hb => by
                have h1 := HBY.out.trans (hb.mono hzy)
                exact ⟨(HBA.out w' h1).1, h1⟩
              have HKC : Hid (∀ w', Below wr.heap.size wr w' → w'.cell? ⟨g4, x, none⟩ = some (.int .i64 (D x)) ∧ w'.cell? ⟨g4, y, none⟩ = some (.int .i64 (D y))) := Lib.hid fun w' hb => by
                have h1 := (HBX.out w' hb).2
                exact ⟨(h1.cell (p := ⟨g4, x, none⟩) hgl4).trans (HC4.out x hltx), (h1.cell (p := ⟨g4, y, none⟩) hgl4).trans (HC4.out y hly)⟩
              have hgl4r : g4 < wr.heap.size := by omega
              have hHH := HH.out x y
              obtain ⟨s, hsm, hadd⟩ := HSa.out x hltx
              have HPx := Lib.hid (HPa.out x hltx)
              rw [hadd] at HPx hHH
              clear hadd
              have HST : Hid (H x y = false → ∀ y', x < y' → y' < y + 1 → H x y' = false) := Lib.hid fun h0 y' h1 h2 => by
                by_cases e : y' = y
                · subst e; exact h0
                · exact HNY.out y' h1 (by omega)
              have HYES : Hid (H x y = true → r = [(a : Int), (x : Int), (y : Int)] ∧ o = true) := Lib.hid fun h0 => HFY.out x y (by omega) hly HNXX.out HNY.out h0
              have HLIT := Lib.hid (fun w => Row.lit_3 w (a : Int) (x : Int) (y : Int))
              generalize D x = X at *
              generalize D y = Y at *
              by_cases hXY : X = Y
              · subst hXY
                have hXX : (X == X) = true := by simp
                rw [decide_eq_true rfl, Bool.true_and] at hHH
                obtain ⟨k0, k1⟩ := HKC.out wr (Below.refl _ _)
                by_cases he : m % 2 = 0
                · have hm1 : ((m : Int) % 2 == 1) = false := by simp; omega
                  have hm2 : (m : Int).tmod 2 = 0 := by rw [Int.tmod_eq_emod_of_nonneg (by omega)]; omega
                  rw [decide_eq_true he, Bool.true_and] at hHH
                  by_cases hsy : s = y
                  · subst hsy
                    have HG : Hid (H x s = false) := Lib.hid (by rw [hHH, decide_eq_true rfl]; rfl)
                    clear hHH he
                    have hne : ((s : Int) != (s : Int)) = false := by simp
                    go_wp2_with fail
                    go_region_held3 (fun w' => w'.cell? ⟨g4, x, none⟩ = some (.int .i64 X) ∧ w'.cell? ⟨g4, s, none⟩ = some (.int .i64 X))
                      (exact HKC.out _ (by (try have hb6 := HB6.out); (repeat' (first | (with_reducible assumption) | (with_reducible exact Below.refl _ _) | (with_reducible refine below_drewN ?_ _) | (with_reducible refine Below.drew ?_) | (with_reducible refine Below.alloc ?_ ?_ _) | (with_reducible refine Below.setCell ?_ ?_ _) | (with_reducible refine Below.trans ?_ (Below.mono (by assumption) ?_)) | (with_reducible exact Nat.le_refl _) | (with_reducible assumption) | omega | (simp; omega) | (simp; done)))))
                      (first | (go_at_call 54; refine (HPx.out _).mono ?_; rintro e w6 ⟨rfl, hb6⟩; obtain ⟨hc6, hf6⟩ := bcell hb6; (try simp only [World.size_drew] at hc6 hf6); have hz6 := hb6.size; (try simp at hz6); have HB6 := Lib.hid hb6; clear hb6))
                    all_goals
                      go_wp2
                      go_roundw
                      case rel => exact ⟨s + 1, by omega, by omega, by go_num, HST.out HG.out, (HBX.out _ (by have hb6 := HB6.out; (repeat' (first | (with_reducible assumption) | (with_reducible exact Below.refl _ _) | (with_reducible refine below_drewN ?_ _) | (with_reducible refine Below.drew ?_) | (with_reducible refine Below.alloc ?_ ?_ _) | (with_reducible refine Below.setCell ?_ ?_ _) | (with_reducible refine Below.trans ?_ (Below.mono (by assumption) ?_)) | (with_reducible exact Nat.le_refl _) | (with_reducible assumption) | omega | (simp; omega) | (simp; done))))).2⟩
                      case measure => (simp [intOf]; try omega)
                  · have HG : Hid (H x y = true) := Lib.hid (by rw [hHH, decide_eq_false (show ¬ (s : Int) = (y : Int) by omega)]; rfl)
                    obtain ⟨hr, ho⟩ := HYES.out HG.out
                    have HRR := Lib.hid hr
                    have HOO := Lib.hid ho
                    have hne : ((y : Int) != (s : Int)) = true := by simp; omega
                    clear hHH he hr ho hsy
                    go_wp2_with fail
                    go_region_held3 (fun w' => w'.cell? ⟨g4, x, none⟩ = some (.int .i64 X) ∧ w'.cell? ⟨g4, y, none⟩ = some (.int .i64 X))
                      (exact HKC.out _ (by (try have hb6 := HB6.out); (repeat' (first | (with_reducible assumption) | (with_reducible exact Below.refl _ _) | (with_reducible refine below_drewN ?_ _) | (with_reducible refine Below.drew ?_) | (with_reducible refine Below.alloc ?_ ?_ _) | (with_reducible refine Below.setCell ?_ ?_ _) | (with_reducible refine Below.trans ?_ (Below.mono (by assumption) ?_)) | (with_reducible exact Nat.le_refl _) | (with_reducible assumption) | omega | (simp; omega) | (simp; done)))))
                      (first | (go_at_call 54; refine (HPx.out _).mono ?_; rintro e w6 ⟨rfl, hb6⟩; obtain ⟨hc6, hf6⟩ := bcell hb6; (try simp only [World.size_drew] at hc6 hf6); have hz6 := hb6.size; (try simp at hz6); have HB6 := Lib.hid hb6; clear hb6))
                    all_goals
                      go_wp2
                      go_ret2
                      have hb6 := HB6.out
                      exact ⟨_, by rw [HOO.out]; rfl, by rw [HRR.out]; exact (HLIT.out _).mono (by have := (HBX.out w6 (by (repeat' (first | (with_reducible assumption) | (with_reducible exact Below.refl _ _) | (with_reducible refine below_drewN ?_ _) | (with_reducible refine Below.drew ?_) | (with_reducible refine Below.alloc ?_ ?_ _) | (with_reducible refine Below.setCell ?_ ?_ _) | (with_reducible refine Below.trans ?_ (Below.mono (by assumption) ?_)) | (with_reducible exact Nat.le_refl _) | (with_reducible assumption) | omega | (simp; omega) | (simp; done))))).1.size; omega), (HBX.out _ (by (repeat' (first | (with_reducible assumption) | (with_reducible exact Below.refl _ _) | (with_reducible refine below_drewN ?_ _) | (with_reducible refine Below.drew ?_) | (with_reducible refine Below.alloc ?_ ?_ _) | (with_reducible refine Below.setCell ?_ ?_ _) | (with_reducible refine Below.trans ?_ (Below.mono (by assumption) ?_)) | (with_reducible exact Nat.le_refl _) | (with_reducible assumption) | omega | (simp; omega) | (simp; done))))).1⟩
                · have hm1 : ((m : Int) % 2 == 1) = true := by simp; omega
                  have hm2 : (m : Int).tmod 2 = 1 := by rw [Int.tmod_eq_emod_of_nonneg (by omega)]; omega
                  have HG : Hid (H x y = true) := Lib.hid (by rw [hHH, decide_eq_false he]; rfl)
                  obtain ⟨hr, ho⟩ := HYES.out HG.out
                  have HRR := Lib.hid hr
                  have HOO := Lib.hid ho
                  clear hHH he hr ho
                  go_wp2_with fail
                  go_quiet (fail)
                  go_wp2
                  go_ret2
                  have hzw := (HBX.out wr (Below.refl _ _)).1.size
                  exact ⟨_, by rw [HOO.out]; rfl, by rw [HRR.out]; exact (HLIT.out _).mono hzw, (HBX.out _ (by (repeat' (first | (with_reducible assumption) | (with_reducible exact Below.refl _ _) | (with_reducible refine below_drewN ?_ _) | (with_reducible refine Below.drew ?_) | (with_reducible refine Below.alloc ?_ ?_ _) | (with_reducible refine Below.setCell ?_ ?_ _) | (with_reducible refine Below.trans ?_ (Below.mono (by assumption) ?_)) | (with_reducible exact Nat.le_refl _) | (with_reducible assumption) | omega | (simp; omega) | (simp; done))))).1⟩
              · have hXX : (X == Y) = false := by simpa using hXY
                have HG : Hid (H x y = false) := Lib.hid (by rw [hHH, decide_eq_false hXY]; rfl)
                clear hHH hXY
                obtain ⟨k0, k1⟩ := HKC.out wr (Below.refl _ _)
                go_wp2_with fail
                go_quiet (fail)
                go_wp2
                go_roundw
                case rel => exact ⟨y + 1, by omega, by omega, by go_num, HST.out HG.out, (HBX.out _ (by (repeat' (first | (with_reducible assumption) | (with_reducible exact Below.refl _ _) | (with_reducible refine below_drewN ?_ _) | (with_reducible refine Below.drew ?_) | (with_reducible refine Below.alloc ?_ ?_ _) | (with_reducible refine Below.setCell ?_ ?_ _) | (with_reducible refine Below.trans ?_ (Below.mono (by assumption) ?_)) | (with_reducible exact Nat.le_refl _) | (with_reducible assumption) | omega | (simp; omega) | (simp; done))))).2⟩
                case measure => (simp [intOf]; try omega)
            · obtain rfl : m = y := by omega
              have HST : Hid (∀ x', x' < x + 1 → ∀ y', x' < y' → y' < m → H x' y' = false) := Lib.hid fun x' h1 y' h2 h3 => by
                by_cases e : x' = x
                · subst e; exact HNY.out y' h2 h3
                · exact HNXX.out x' (by omega) y' h2 h3
              go_wp2
              go_roundw
              case rel => exact ⟨x + 1, by omega, by go_num, HST.out, HBY.out⟩
              case measure => (simp [intOf]; try omega)
        · obtain rfl : m = x := by omega
          have HG := Lib.hid (HNX.out fun x' y' h1 h2 => HNXX.out x' (by omega) y' h1 h2)
          have HBF := Lib.hid (HBA.out wr HBRX.out).2
          go_wp2
          go_roundw
          case rel => exact ⟨a + 1, by omega, by omega, by go_num, HG.out, HBF.out⟩
          case measure => (simp [intOf]; try omega)
    · obtain rfl : m = a := by omega
      obtain ⟨hr, ho⟩ := HF.out.no fun a' h1 h2 x y => HNO.out a' h1 h2 x y
      have HRR := Lib.hid hr
      have HOO := Lib.hid ho
      have HBF := Lib.hid (HB3.out.trans (HBR.out.mono HB3.out.size))
      clear hr ho
      go_wp2
      go_ret2
      exact ⟨_, by rw [HOO.out]; rfl, by rw [HRR.out]; exact Row.nil _ _, HBF.out⟩
theorem key_FirstRepeated (q : Int) (l_f : List Int) (b_f : l_f.length ≤ 1048576) : ∃ (r : List Int) (o : Bool), r.length ≤ 1048576 ∧ (∀ (w : World) (v_f : Value) (_ : Sl w v_f l_f), Calls Try.prog 29 #[.int .i64 q, v_f] w fun e w' => ∃ v, e = .returned (.tuple #[v, .bool o]) ∧ Row w' w.heap.size v r ∧ Below w.heap.size w w') ∧
      (∀ (w : World) (v_f : Value) (_ : Sl w v_f l_f), Calls Try.prog 30 #[.int .i64 q, v_f] w fun e w' => ∃ v, e = .returned (.tuple #[v, .bool o]) ∧ Row w' w.heap.size v r ∧ Below w.heap.size w w') := by
  cases h : isSz q && good q l_f with
  | false => exact ⟨[], false, by simp, fun w v hv => (spec_FirstRepeated_no q v l_f w hv b_f h).mono fun _ _ ⟨he, hb⟩ => ⟨_, he, Row.nil _ _, hb⟩, fun w v hv => (impl_FirstRepeated_no q v l_f w hv b_f h).mono fun _ _ ⟨he, hb⟩ => ⟨_, he, Row.nil _ _, hb⟩⟩
  | true =>
    simp only [Bool.and_eq_true] at h
    have hq := isSz_le q h.1
    obtain ⟨m, rfl⟩ := Int.eq_ofNat_of_zero_le (show 0 ≤ q by omega)
    obtain ⟨r, o, hF, hr⟩ := frp_is m (tbl m l_f)
    exact ⟨r, o, by omega, fun w v hv => spec_FirstRepeated_yes m v l_f r o w h.1 hv h.2 hF, fun w v hv => impl_FirstRepeated_yes m v l_f r o w h.1 hv h.2 hF⟩
set_option maxRecDepth 100000 in
set_option maxHeartbeats 4000000 in
/-- laws.FnExactFirstRepeated. -/
theorem walk_FnExactFirstRepeated (q : Int) (a_f : Option Addr) (n_f c_f : Nat) (z_f : List Int) (w : World) (_h_q : (Lit.int .i64 q).wf = true) (h_f : IsRow .i64 w a_f n_f c_f z_f) :
    Calls Try.prog 9 #[.int .i64 q, .slice a_f n_f c_f] w fun e w' => e = .returned (.bool true) ∧ Below w.heap.size w w' := by
  clear _h_q
  obtain ⟨hs_f, hl_f, _⟩ := h_f.sl
  generalize z_f.take n_f = l_f at *
  clear h_f
  subst hl_f
  by_cases b_f : l_f.length ≤ 1048576
  rotate_left
  · have hn_f : (1048576 : Int) < (l_f.length : Int) := by omega
    go_enter Try.func9, Try.ntmps9
    go_wp2
    go_ret
    exact ⟨rfl, Below.refl _ _⟩
  have hn_f : ¬ (1048576 : Int) < (l_f.length : Int) := by omega
  obtain ⟨r, o, hr, k1, k2⟩ := key_FirstRepeated q l_f b_f
  have K1 := Lib.hid k1; clear k1
  have K2 := Lib.hid k2; clear k2
  have HS_f := Lib.hid hs_f; clear hs_f
  have HB0 : Hid (Below w.heap.size w w) := Lib.hid (Below.refl _ _)
  go_enter Try.func9, Try.ntmps9
  go_wp2_with fail
  refine (toIntS_any _ l_f _ (HS_f.out.below HB0.out (Nat.le_refl _)) b_f).mono ?_
  rintro e w1 ⟨v_s_f, rfl, hrw1, hbw1⟩
  have hzw1 : w.heap.size ≤ w1.heap.size := hbw1.size
  have HBw1 : Hid (Below w.heap.size w w1) := Lib.hid (HB0.out.trans (hbw1.mono HB0.out.size))
  have hww1 := HBw1.out.size
  clear hbw1 HB0
  have R_s_f_w1 := Lib.hid hrw1; clear hrw1
  have lt_s_f : Hid (∀ g, v_s_f.ownBlock = some g → w.heap.size ≤ g ∧ g < w1.heap.size) := Lib.hid R_s_f_w1.out.lt
  go_wp2_with fail
  refine (K1.out _ v_s_f R_s_f_w1.out.sl).mono ?_
  rintro e w2 ⟨v_sp, rfl, hrw2, hbw2⟩
  have hzw2 : w1.heap.size ≤ w2.heap.size := hbw2.size
  have R_s_f_w2 := Lib.hid (R_s_f_w1.out.below hbw2)
  clear R_s_f_w1
  have HBw2 : Hid (Below w.heap.size w w2) := Lib.hid (HBw1.out.trans (hbw2.mono HBw1.out.size))
  have hww2 := HBw2.out.size
  clear hbw2 HBw1
  have R_sp_w2 := Lib.hid hrw2; clear hrw2
  have lt_sp : Hid (∀ g, v_sp.ownBlock = some g → w1.heap.size ≤ g ∧ g < w2.heap.size) := Lib.hid R_sp_w2.out.lt
  clear R_s_f_w2 lt_s_f
  go_wp2_with fail
  refine (toIntS_any _ l_f _ (HS_f.out.below HBw2.out (Nat.le_refl _)) b_f).mono ?_
  rintro e w3 ⟨v_x_f, rfl, hrw3, hbw3⟩
  have hzw3 : w2.heap.size ≤ w3.heap.size := hbw3.size
  have R_sp_w3 := Lib.hid (R_sp_w2.out.below hbw3)
  clear R_sp_w2
  have HBw3 : Hid (Below w.heap.size w w3) := Lib.hid (HBw2.out.trans (hbw3.mono HBw2.out.size))
  have hww3 := HBw3.out.size
  clear hbw3 HBw2
  have R_x_f_w3 := Lib.hid hrw3; clear hrw3
  have lt_x_f : Hid (∀ g, v_x_f.ownBlock = some g → w2.heap.size ≤ g ∧ g < w3.heap.size) := Lib.hid R_x_f_w3.out.lt
  go_wp2_with fail
  refine (K2.out _ v_x_f R_x_f_w3.out.sl).mono ?_
  rintro e w4 ⟨v_im, rfl, hrw4, hbw4⟩
  have hzw4 : w3.heap.size ≤ w4.heap.size := hbw4.size
  have R_sp_w4 := Lib.hid (R_sp_w3.out.below hbw4)
  clear R_sp_w3
  have R_x_f_w4 := Lib.hid (R_x_f_w3.out.below hbw4)
  clear R_x_f_w3
  have HBw4 : Hid (Below w.heap.size w w4) := Lib.hid (HBw3.out.trans (hbw4.mono HBw3.out.size))
  have hww4 := HBw4.out.size
  clear hbw4 HBw3
  have R_im_w4 := Lib.hid hrw4; clear hrw4
  have lt_im : Hid (∀ g, v_im.ownBlock = some g → w3.heap.size ≤ g ∧ g < w4.heap.size) := Lib.hid R_im_w4.out.lt
  go_wp2_with fail
  refine (eq_same v_im v_sp r _ _ _ R_im_w4.out R_sp_w4.out (by omega)).mono ?_
  rintro e w5 ⟨rfl, hbw5⟩
  have hzw5 : w4.heap.size ≤ w5.heap.size := hbw5.size
  have R_sp_w5 := Lib.hid (R_sp_w4.out.below hbw5)
  clear R_sp_w4
  have R_x_f_w5 := Lib.hid (R_x_f_w4.out.below hbw5)
  clear R_x_f_w4
  have R_im_w5 := Lib.hid (R_im_w4.out.below hbw5)
  clear R_im_w4
  have HBw5 : Hid (Below w.heap.size w w5) := Lib.hid (HBw4.out.trans (hbw5.mono HBw4.out.size))
  have hww5 := HBw5.out.size
  clear hbw5 HBw4
  go_wp2_with fail
  refine (toIntS_any _ l_f _ (HS_f.out.below HBw5.out (Nat.le_refl _)) b_f).mono ?_
  rintro e w6 ⟨v_y_f, rfl, hrw6, hbw6⟩
  have hzw6 : w5.heap.size ≤ w6.heap.size := hbw6.size
  have R_sp_w6 := Lib.hid (R_sp_w5.out.below hbw6)
  clear R_sp_w5
  have R_x_f_w6 := Lib.hid (R_x_f_w5.out.below hbw6)
  clear R_x_f_w5
  have R_im_w6 := Lib.hid (R_im_w5.out.below hbw6)
  clear R_im_w5
  have HBw6 : Hid (Below w.heap.size w w6) := Lib.hid (HBw5.out.trans (hbw6.mono HBw5.out.size))
  have hww6 := HBw6.out.size
  clear hbw6 HBw5
  have R_y_f_w6 := Lib.hid hrw6; clear hrw6
  have lt_y_f : Hid (∀ g, v_y_f.ownBlock = some g → w5.heap.size ≤ g ∧ g < w6.heap.size) := Lib.hid R_y_f_w6.out.lt
  go_wp2_with fail
  refine (eq_same v_x_f v_y_f l_f _ _ _ R_x_f_w6.out R_y_f_w6.out (by omega)).mono ?_
  rintro e w7 ⟨rfl, hbw7⟩
  have hzw7 : w6.heap.size ≤ w7.heap.size := hbw7.size
  have R_sp_w7 := Lib.hid (R_sp_w6.out.below hbw7)
  clear R_sp_w6
  have R_x_f_w7 := Lib.hid (R_x_f_w6.out.below hbw7)
  clear R_x_f_w6
  have R_im_w7 := Lib.hid (R_im_w6.out.below hbw7)
  clear R_im_w6
  have R_y_f_w7 := Lib.hid (R_y_f_w6.out.below hbw7)
  clear R_y_f_w6
  have HBw7 : Hid (Below w.heap.size w w7) := Lib.hid (HBw6.out.trans (hbw7.mono HBw6.out.size))
  have hww7 := HBw7.out.size
  clear hbw7 HBw6
  clear R_y_f_w7 lt_y_f
  go_wp2_with fail
  refine (mark_any v_x_f l_f _ (1) _ R_x_f_w7.out (by omega) (by omega) (by omega)).mono ?_
  rintro e w8 ⟨rfl, hrw8, hgw8⟩
  have hzw8 : w7.heap.size ≤ w8.heap.size := hgw8.size
  have R_sp_w8 := Lib.hid (R_sp_w7.out.keep (w' := w8) fun g hg => hgw8.block g (R_sp_w7.out.lt g hg).2 fun e => by have h1 := lt_sp.out g hg; have h2 := lt_x_f.out g e.symm; omega)
  clear R_sp_w7
  have R_im_w8 := Lib.hid (R_im_w7.out.keep (w' := w8) fun g hg => hgw8.block g (R_im_w7.out.lt g hg).2 fun e => by have h1 := lt_im.out g hg; have h2 := lt_x_f.out g e.symm; omega)
  clear R_im_w7
  have HBw8 : Hid (Below w.heap.size w w8) := Lib.hid (Below.grown HBw7.out hgw8 (by omega) (fun g e => by have h2 := lt_x_f.out g e; omega))
  have hww8 := HBw8.out.size
  have R_x_f_w8 := Lib.hid hrw8
  clear hrw8 hgw8 HBw7 R_x_f_w7
  clear R_x_f_w8 lt_x_f
  have hpos : ¬ (1 + (l_f.length : Int)) < (0 : Int) := by omega
  go_wp2_with fail
  refine (eq_same v_im v_sp r _ _ _ R_im_w8.out R_sp_w8.out (by omega)).mono ?_
  rintro e w9 ⟨rfl, hbw9⟩
  have hzw9 : w8.heap.size ≤ w9.heap.size := hbw9.size
  have R_sp_w9 := Lib.hid (R_sp_w8.out.below hbw9)
  clear R_sp_w8
  have R_im_w9 := Lib.hid (R_im_w8.out.below hbw9)
  clear R_im_w8
  have HBw9 : Hid (Below w.heap.size w w9) := Lib.hid (HBw8.out.trans (hbw9.mono HBw8.out.size))
  have hww9 := HBw9.out.size
  clear hbw9 HBw8
  go_wp2_with fail
  refine (mark_any v_im r _ (1) _ R_im_w9.out (by omega) (by omega) (by omega)).mono ?_
  rintro e w10 ⟨rfl, hrw10, hgw10⟩
  have hzw10 : w9.heap.size ≤ w10.heap.size := hgw10.size
  have R_sp_w10 := Lib.hid (R_sp_w9.out.keep (w' := w10) fun g hg => hgw10.block g (R_sp_w9.out.lt g hg).2 fun e => by have h1 := lt_sp.out g hg; have h2 := lt_im.out g e.symm; omega)
  clear R_sp_w9
  have HBw10 : Hid (Below w.heap.size w w10) := Lib.hid (Below.grown HBw9.out hgw10 (by omega) (fun g e => by have h2 := lt_im.out g e; omega))
  have hww10 := HBw10.out.size
  have R_im_w10 := Lib.hid hrw10
  clear hrw10 hgw10 HBw9 R_im_w9
  go_wp2_with fail
  refine (held_any v_im r.length _ (1) _ R_im_w10.out (by omega) (by omega) (by omega)).mono ?_
  rintro e wx1 ⟨rfl, rfl⟩
  go_wp2_with fail
  refine (toIntS_any _ l_f _ (HS_f.out.below HBw10.out (Nat.le_refl _)) b_f).mono ?_
  rintro e w11 ⟨v_t_f, rfl, hrw11, hbw11⟩
  have hzw11 : w10.heap.size ≤ w11.heap.size := hbw11.size
  have R_sp_w11 := Lib.hid (R_sp_w10.out.below hbw11)
  clear R_sp_w10
  have R_im_w11 := Lib.hid (R_im_w10.out.below hbw11)
  clear R_im_w10
  have HBw11 : Hid (Below w.heap.size w w11) := Lib.hid (HBw10.out.trans (hbw11.mono HBw10.out.size))
  have hww11 := HBw11.out.size
  clear hbw11 HBw10
  have R_t_f_w11 := Lib.hid hrw11; clear hrw11
  have lt_t_f : Hid (∀ g, v_t_f.ownBlock = some g → w10.heap.size ≤ g ∧ g < w11.heap.size) := Lib.hid R_t_f_w11.out.lt
  go_wp2_with fail
  refine (K2.out _ v_t_f R_t_f_w11.out.sl).mono ?_
  rintro e w12 ⟨v_im2, rfl, hrw12, hbw12⟩
  have hzw12 : w11.heap.size ≤ w12.heap.size := hbw12.size
  have R_sp_w12 := Lib.hid (R_sp_w11.out.below hbw12)
  clear R_sp_w11
  have R_im_w12 := Lib.hid (R_im_w11.out.below hbw12)
  clear R_im_w11
  have R_t_f_w12 := Lib.hid (R_t_f_w11.out.below hbw12)
  clear R_t_f_w11
  have HBw12 : Hid (Below w.heap.size w w12) := Lib.hid (HBw11.out.trans (hbw12.mono HBw11.out.size))
  have hww12 := HBw12.out.size
  clear hbw12 HBw11
  have R_im2_w12 := Lib.hid hrw12; clear hrw12
  have lt_im2 : Hid (∀ g, v_im2.ownBlock = some g → w11.heap.size ≤ g ∧ g < w12.heap.size) := Lib.hid R_im2_w12.out.lt
  clear R_t_f_w12 lt_t_f
  go_wp2_with fail
  refine (eq_same v_im2 v_sp r _ _ _ R_im2_w12.out R_sp_w12.out (by omega)).mono ?_
  rintro e w13 ⟨rfl, hbw13⟩
  have hzw13 : w12.heap.size ≤ w13.heap.size := hbw13.size
  have R_sp_w13 := Lib.hid (R_sp_w12.out.below hbw13)
  clear R_sp_w12
  have R_im_w13 := Lib.hid (R_im_w12.out.below hbw13)
  clear R_im_w12
  have R_im2_w13 := Lib.hid (R_im2_w12.out.below hbw13)
  clear R_im2_w12
  have HBw13 : Hid (Below w.heap.size w w13) := Lib.hid (HBw12.out.trans (hbw13.mono HBw12.out.size))
  have hww13 := HBw13.out.size
  clear hbw13 HBw12
  go_wp2_with fail
  refine (held_any v_im r.length _ (1) _ R_im_w13.out (by omega) (by omega) (by omega)).mono ?_
  rintro e wx2 ⟨rfl, rfl⟩
  go_wp2
  go_ret
  exact ⟨rfl, HBw13.out⟩
end Go.Proofs.Ytgndlpdcebmgmaa
