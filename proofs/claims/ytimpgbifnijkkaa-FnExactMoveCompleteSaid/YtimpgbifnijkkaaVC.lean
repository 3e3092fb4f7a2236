/- MoveComplete, of both, by contracts; the walk of its law. -/
import Derived.Test.YtimpgbifnijkkaaVB
namespace Go.Proofs.Ytimpgbifnijkkaa
open Go.RowKit
/-- A table moved: at x + a, and b more. -/
def mvc (m : Nat) (t : Nat → Int) (a b : Int) : Nat → Int := fun x => addF m (t (addF m (x : Int) a).toNat) b
theorem mvc_el {m : Nat} {t : Nat → Int} {a b : Int} (h : isSz (m : Int) = true) (ht : ∀ i, i < m → El (m : Int) (t i)) (ha : El (m : Int) a) (hb : El (m : Int) b) (i : Nat) (hi : i < m) : El (m : Int) (mvc m t a b i) := by
  have h1 := El.add h (El.nat hi) ha
  exact El.add h (ht _ (by have := h1.1; have := h1.2; omega)) hb
theorem spec_MoveComplete_no0 (q a b : Int) (v : Value) (l : List Int) (w : World) (hv : Sl w v l) (hl : l.length ≤ 1048576) (hg : cpl q l = false) :
    Calls Try.prog 25 #[.int .i64 q, v, .int .i64 a, .int .i64 b] w fun e w' => e = .returned (.tuple #[.slice none 0 0, .bool false]) ∧ Below w.heap.size w w' := by
  have HP := Lib.hid (cmGiven_no q v l w hv hl hg)
  clear hg hv hl
  go_enter Try.func25, Try.ntmps25
  go_wp2_with fail
  refine HP.out.mono ?_
  rintro e w1 ⟨v1, rfl, hb1⟩
  go_wp2
  go_ret2
  exact ⟨rfl, hb1⟩
theorem spec_MoveComplete_no1 (m : Nat) (a b : Int) (v : Value) (l : List Int) (w : World) (h : isSz (m : Int) = true) (hv : Sl w v l) (hg : good (m : Int) l = true) (hc : cpt m (tbl m l) = true) (ha : inE (m : Int) a = false) :
    Calls Try.prog 25 #[.int .i64 m, v, .int .i64 a, .int .i64 b] w fun e w' => e = .returned (.tuple #[.slice none 0 0, .bool false]) ∧ Below w.heap.size w w' := by
  have hG := cmGiven_any m v l w h hv hg
  rw [hc] at hG
  have HP := Lib.hid hG
  have HA := Lib.hid (fun w => fdIn_any (m : Int) a w)
  rw [ha] at HA
  clear hG hg hv h hc ha
  generalize tbl m l = t at *
  go_enter Try.func25, Try.ntmps25
  go_wp2_with fail
  refine HP.out.mono ?_
  rintro e w1 ⟨v1, rfl, hr1, hb1⟩
  clear hr1
  have HB1 := Lib.hid hb1; clear hb1
  go_wp2_with fail
  refine (HA.out _).mono ?_
  rintro e w2 ⟨rfl, hb2⟩
  have HB2 : Hid (Below w.heap.size w w2) := Lib.hid (HB1.out.trans (hb2.mono HB1.out.size)); clear hb2
  go_wp2
  go_ret2
  exact ⟨rfl, HB2.out⟩
theorem spec_MoveComplete_no2 (m : Nat) (a b : Int) (v : Value) (l : List Int) (w : World) (h : isSz (m : Int) = true) (hv : Sl w v l) (hg : good (m : Int) l = true) (hc : cpt m (tbl m l) = true) (ha : inE (m : Int) a = true) (hb : inE (m : Int) b = false) :
    Calls Try.prog 25 #[.int .i64 m, v, .int .i64 a, .int .i64 b] w fun e w' => e = .returned (.tuple #[.slice none 0 0, .bool false]) ∧ Below w.heap.size w w' := by
  have hG := cmGiven_any m v l w h hv hg
  rw [hc] at hG
  have HP := Lib.hid hG
  have HA := Lib.hid (fun w => fdIn_any (m : Int) a w)
  rw [ha] at HA
  have HBB := Lib.hid (fun w => fdIn_any (m : Int) b w)
  rw [hb] at HBB
  clear hG hg hv h hc ha hb
  generalize tbl m l = t at *
  go_enter Try.func25, Try.ntmps25
  go_wp2_with fail
  refine HP.out.mono ?_
  rintro e w1 ⟨v1, rfl, hr1, hb1⟩
  clear hr1
  have HB1 := Lib.hid hb1; clear hb1
  go_wp2_with fail
  refine (HA.out _).mono ?_
  rintro e w2 ⟨rfl, hb2⟩
  have HB2 : Hid (Below w.heap.size w w2) := Lib.hid (HB1.out.trans (hb2.mono HB1.out.size)); clear hb2
  go_wp2_with fail
  refine (HBB.out _).mono ?_
  rintro e w3 ⟨rfl, hb3⟩
  have HB3 : Hid (Below w.heap.size w w3) := Lib.hid (HB2.out.trans (hb3.mono HB2.out.size)); clear hb3
  go_wp2
  go_ret2
  exact ⟨rfl, HB3.out⟩
set_option maxRecDepth 100000 in
set_option maxHeartbeats 4000000 in
theorem impl_MoveComplete_no0 (q a b : Int) (v : Value) (l : List Int) (w : World) (hv : Sl w v l) (hl : l.length ≤ 1048576) (hg : cpl q l = false) (hp : (inE q a && inE q b) = false) :
    Calls Try.prog 26 #[.int .i64 q, v, .int .i64 a, .int .i64 b] w fun e w' => e = .returned (.tuple #[.slice none 0 0, .bool false]) ∧ Below w.heap.size w w' := by
  have HP := Lib.hid (vcp_no q v l w hv hl hg)
  have HPA := Lib.hid (fun w => pairOf_no q a b w hp)
  clear hg hp
  clear hv hl
  go_enter Try.func26, Try.ntmps26
  go_wp2_with fail
  refine HP.out.mono ?_
  rintro e w1 ⟨rfl, hb1⟩
  have hz_hb1 := hb1.size; (try simp at hz_hb1)
  have HB1 := Lib.hid hb1; clear hb1
  go_wp2_with fail
  refine (HPA.out _).mono ?_
  rintro e w2 ⟨rfl, hb2⟩
  have hz_hb2 := hb2.size; (try simp at hz_hb2)
  have HB2 := Lib.hid hb2; clear hb2
  go_wp2_with fail
  go_ret2
  have hb1 := HB1.out
  have hb2 := HB2.out
  exact ⟨rfl, by (repeat' (first | (with_reducible assumption) | (with_reducible exact Below.refl _ _) | (with_reducible refine below_drewN ?_ _) | (with_reducible refine Below.drew ?_) | (with_reducible refine Below.alloc ?_ ?_ _) | (with_reducible refine Below.setCell ?_ ?_ _) | (with_reducible refine Below.trans ?_ (Below.mono (by assumption) ?_)) | (with_reducible exact Nat.le_refl _) | (with_reducible assumption) | omega | (simp; omega) | (simp; done)))⟩
set_option maxRecDepth 100000 in
set_option maxHeartbeats 4000000 in
theorem impl_MoveComplete_no1 (q a b : Int) (v : Value) (l : List Int) (w : World) (hv : Sl w v l) (hl : l.length ≤ 1048576) (hg : cpl q l = false) (ha : inE q a = true) (hb : inE q b = true) :
    Calls Try.prog 26 #[.int .i64 q, v, .int .i64 a, .int .i64 b] w fun e w' => e = .returned (.tuple #[.slice none 0 0, .bool false]) ∧ Below w.heap.size w w' := by
  have HP := Lib.hid (vcp_no q v l w hv hl hg)
  have HPA := Lib.hid (fun w => pairOf_yes q a b w ha hb)
  clear hg ha hb
  clear hv hl
  go_enter Try.func26, Try.ntmps26
  go_wp2_with fail
  refine HP.out.mono ?_
  rintro e w1 ⟨rfl, hb1⟩
  have hz_hb1 := hb1.size; (try simp at hz_hb1)
  have HB1 := Lib.hid hb1; clear hb1
  go_wp2_with fail
  refine (HPA.out _).mono ?_
  rintro e w2 ⟨rfl, hb2⟩
  have hz_hb2 := hb2.size; (try simp at hz_hb2)
  have HB2 := Lib.hid hb2; clear hb2
  go_wp2_with fail
  go_ret2
  have hb1 := HB1.out
  have hb2 := HB2.out
  exact ⟨rfl, by (repeat' (first | (with_reducible assumption) | (with_reducible exact Below.refl _ _) | (with_reducible refine below_drewN ?_ _) | (with_reducible refine Below.drew ?_) | (with_reducible refine Below.alloc ?_ ?_ _) | (with_reducible refine Below.setCell ?_ ?_ _) | (with_reducible refine Below.trans ?_ (Below.mono (by assumption) ?_)) | (with_reducible exact Nat.le_refl _) | (with_reducible assumption) | omega | (simp; omega) | (simp; done)))⟩
set_option maxRecDepth 100000 in
set_option maxHeartbeats 4000000 in
theorem impl_MoveComplete_no2 (q a b : Int) (v : Value) (l : List Int) (w : World) (hv : Sl w v l) (hl : l.length ≤ 1048576) (hg : cpl q l = true) (hp : (inE q a && inE q b) = false) :
    Calls Try.prog 26 #[.int .i64 q, v, .int .i64 a, .int .i64 b] w fun e w' => e = .returned (.tuple #[.slice none 0 0, .bool false]) ∧ Below w.heap.size w w' := by
  have HPA := Lib.hid (fun w => pairOf_no q a b w hp)
  clear hp
  obtain ⟨m, rfl, hs, hg2, hc⟩ := cpl_nat hg
  have HP := Lib.hid (vcp_T m v l w hs hv hg2 hc)
  clear hg hs hg2 hc
  clear hv hl
  go_enter Try.func26, Try.ntmps26
  go_wp2_with fail
  refine HP.out.mono ?_
  rintro e w1 ⟨v1, rfl, hp1, hb1⟩
  obtain ⟨a1, k1, c1, rfl⟩ := hp1.slice
  clear hp1
  have hz_hb1 := hb1.size; (try simp at hz_hb1)
  have HB1 := Lib.hid hb1; clear hb1
  go_wp2_with fail
  refine (HPA.out _).mono ?_
  rintro e w2 ⟨rfl, hb2⟩
  have hz_hb2 := hb2.size; (try simp at hz_hb2)
  have HB2 := Lib.hid hb2; clear hb2
  go_wp2_with fail
  go_ret2
  have hb1 := HB1.out
  have hb2 := HB2.out
  exact ⟨rfl, by (repeat' (first | (with_reducible assumption) | (with_reducible exact Below.refl _ _) | (with_reducible refine below_drewN ?_ _) | (with_reducible refine Below.drew ?_) | (with_reducible refine Below.alloc ?_ ?_ _) | (with_reducible refine Below.setCell ?_ ?_ _) | (with_reducible refine Below.trans ?_ (Below.mono (by assumption) ?_)) | (with_reducible exact Nat.le_refl _) | (with_reducible assumption) | omega | (simp; omega) | (simp; done)))⟩
set_option maxRecDepth 100000 in
set_option maxHeartbeats 4000000 in
theorem spec_MoveComplete_yes (m : Nat) (a b : Int) (v : Value) (l : List Int) (w : World) (h : isSz (m : Int) = true) (hv : Sl w v l) (hg : good (m : Int) l = true) (hc : cpt m (tbl m l) = true) (ha : inE (m : Int) a = true) (hb : inE (m : Int) b = true) :
    Calls Try.prog 25 #[.int .i64 m, v, .int .i64 a, .int .i64 b] w fun e w' => ∃ v', e = .returned (.tuple #[v', .bool true]) ∧ Row w' w.heap.size v' (ptl m (mvc m (tbl m l) a b)) ∧ Below w.heap.size w w' := by
  obtain ⟨i0, hi, iz0, iz1, iz2⟩ := info_parts Try.infoI
  have hq := isSz_le (m : Int) h
  have hG := cmGiven_any m v l w h hv hg
  rw [hc] at hG
  have HP := Lib.hid hG
  have hte := tbl_el h hg
  have ea : El (m : Int) a := (inE_yes ha).2
  have eb : El (m : Int) b := (inE_yes hb).2
  have HAI := Lib.hid (fun w => fdIn_any (m : Int) a w)
  rw [ha] at HAI
  have HBI := Lib.hid (fun w => fdIn_any (m : Int) b w)
  rw [hb] at HBI
  have hme := mvc_el h hte ea eb
  have HPA := Lib.hid (fun (x : Nat) (hx : x < m) w => fdPlus_any (m : Int) (x : Int) a w h (by omega) (by omega) ea.1 ea.2)
  have HAD := Lib.hid (fun (x : Nat) (hx : x < m) => El.add h (El.nat hx) ea)
  have HPB := Lib.hid (fun (s : Nat) (hs : s < m) w => fdPlus_any (m : Int) (tbl m l s) b w h (hte s hs).1 (hte s hs).2 eb.1 eb.2)
  have HD : Hid (∀ x : Nat, addF m (tbl m l (addF m (x : Int) a).toNat) b = mvc m (tbl m l) a b x) := Lib.hid fun _ => rfl
  have HF := Lib.hid (fun v' w' (hs : Sl w' v' (fl (mvc m (tbl m l) a b) m)) => by
    have := plFromT m v' (mvc m (tbl m l) a b) w' h hs hme
    rw [ftl_ptl h hme] at this
    exact this)
  have HSUC := Lib.hid (fl_succ (mvc m (tbl m l) a b))
  clear hG hg hv h hc hte hme ea eb ha hb
  generalize ptl m (mvc m (tbl m l) a b) = r at *
  generalize mvc m (tbl m l) a b = D at *
  generalize tbl m l = t at *
  go_enter Try.func25, Try.ntmps25
  go_wp2_with fail
  refine HP.out.mono ?_
  rintro e w3 ⟨v3, rfl, hr3, hb3⟩
  obtain ⟨b0, off, cap, rfl, hb, hcc⟩ := hr3.sl.open (n := m) (by rw [fl_len]) (by omega)
  have HC3 : Hid (∀ w', Below w3.heap.size w3 w' → ∀ j, j < m → w'.cell? ⟨b0, off + j, none⟩ = some (.int .i64 (t j))) := Lib.hid fun w' hbw j hj => by
    rw [hbw.cell (p := ⟨b0, off + j, none⟩) hb, hcc j hj, fl_get _ _ _ hj]
  have HB3 := Lib.hid hb3; clear hb3 hr3 hcc
  go_wp2_with fail
  refine (HAI.out _).mono ?_
  rintro e w4 ⟨rfl, hb4⟩
  have HB4 : Hid (Below w3.heap.size w3 w4) := Lib.hid hb4; clear hb4
  go_wp2_with fail
  refine (HBI.out _).mono ?_
  rintro e w5 ⟨rfl, hb5⟩
  have HB35 : Hid (Below w3.heap.size w3 w5) := Lib.hid (HB4.out.trans (hb5.mono HB4.out.size))
  have HB5 : Hid (Below w.heap.size w w5) := Lib.hid (HB3.out.trans (HB35.out.mono HB3.out.size)); clear hb5
  have hz5 := HB5.out.size
  have hz35 := HB35.out.size
  have hb05 : b0 < w5.heap.size := by omega
  clear HB4
  go_wp2_with fail
  go_loopw [12, 36] (fun vo vi wr => ∃ i : Nat, i ≤ m ∧ vi = .int .i64 i ∧ Row wr w5.heap.size vo (fl D i) ∧ Below w5.heap.size w5 wr) (fun _ vi _ => m - (intOf vi).toNat)
  case atStart => exact ⟨0, Nat.zero_le _, rfl, Row.nil _ _, Below.refl _ _⟩
  case round =>
    obtain ⟨i, hin, rfl, hr, hbw⟩ := hrel
    have HR := Lib.hid hr; clear hr
    have hz := hbw.size
    have HBW := Lib.hid hbw; clear hbw
    have hbl : b0 < wr.heap.size := by omega
    by_cases hlt : i < m
    · have HPi := Lib.hid (fun w => HPA.out i hlt w)
      have HSi := Lib.hid (HSUC.out i)
      have hai := HAD.out i hlt
      have HDi := HD.out i
      obtain ⟨s, hs⟩ := Int.eq_ofNat_of_zero_le hai.1
      have hsm : s < m := by have := hai.2; omega
      clear hai
      rw [hs, Int.toNat_natCast] at HDi
      rw [hs] at HPi
      have HLi := Lib.hid (fun w => HPB.out s hsm w)
      rw [HDi] at HLi
      have HCS := Lib.hid (fun w' hb => HC3.out w' hb s hsm)
      clear hs HDi
      generalize t s = y at *
      generalize D i = z at *
      go_wp2_with fail
      refine (HPi.out _).mono ?_
      rintro e w6 ⟨rfl, hb6⟩
      have hz_hb6 := hb6.size; (try simp at hz_hb6)
      have HB6 := Lib.hid hb6; clear hb6
      have HBW1 : Hid (Below w5.heap.size w5 w6) := Lib.hid (by have hb0 := HBW.out; have hb1 := HB6.out; (repeat' (first | (with_reducible assumption) | (with_reducible exact Below.refl _ _) | (with_reducible refine below_drewN ?_ _) | (with_reducible refine Below.drew ?_) | (with_reducible refine Below.alloc ?_ ?_ _) | (with_reducible refine Below.setCell ?_ ?_ _) | (with_reducible refine Below.trans ?_ (Below.mono (by assumption) ?_)) | (with_reducible exact Nat.le_refl _) | (with_reducible assumption) | omega | (simp; omega) | (simp; done))))
      have hcs := HCS.out _ (HB35.out.trans (HBW1.out.mono hz35))
      have hbl1 : b0 < w6.heap.size := by omega
      go_wp2_with fail
      refine (HLi.out _).mono ?_
      rintro e w2 ⟨rfl, hb2⟩
      have hz_hb2 := hb2.size; (try simp at hz_hb2)
      have HB2 := Lib.hid hb2; clear hb2
      have HBW2 : Hid (Below w5.heap.size w5 w2) := Lib.hid (by have hb0 := HBW1.out; have hb1 := HB2.out; (repeat' (first | (with_reducible assumption) | (with_reducible exact Below.refl _ _) | (with_reducible refine below_drewN ?_ _) | (with_reducible refine Below.drew ?_) | (with_reducible refine Below.alloc ?_ ?_ _) | (with_reducible refine Below.setCell ?_ ?_ _) | (with_reducible refine Below.trans ?_ (Below.mono (by assumption) ?_)) | (with_reducible exact Nat.le_refl _) | (with_reducible assumption) | omega | (simp; omega) | (simp; done))))
      have HR2 := Lib.hid ((HR.out.below HB6.out).below HB2.out)
      go_wp2_with (at_builtin; refine wpList_append_own _ rfl _ _ 22 rfl w5.heap.size 3 i0 (.int .i64 0) 1 8 Try.underlying22 hi iz0 iz1 iz2 rfl (by decide) _ _ _ rfl (World.ownsRow.alloc HR2.out _) ⟨w2.heap.size, 0, none⟩ 1 1 [.int .i64 z] rfl rfl ?c1 ?c2 ?c3 ?c4 ?c5 ?_)
      case c1 => exact cell_one_new _ _ _
      case c2 => first | rfl | (intro u hu; simp at hu; subst hu; rfl)
      case c3 => rw [fl_len]; unfold maxLen; omega
      case c4 => rw [fl_len]; omega
      case c5 => first | omega | (simp; omega)
      intro v' w7 hown hgrow _
      have HR7 := Lib.hid (Row.appended hown)
      have hb7 : Below w5.heap.size w5 (w2.alloc (.cells #[.int .i64 z] 3)) := HBW2.out.alloc (by have := HBW2.out.size; omega) _
      have HB7 := Lib.hid (hb7.grown hgrow (by have := HBW2.out.size; simp; omega) (fun g hg => (HR2.out.lt g hg).1))
      clear hown hgrow hb7
      go_wp2
      go_roundw
      case rel => exact ⟨i + 1, by omega, by go_num, by rw [HSi.out]; exact HR7.out, HB7.out⟩
      case measure => simp [intOf]; omega
    · obtain rfl : m = i := by omega
      go_wp2_with fail
      refine (HF.out _ _ HR.out.sl).mono ?_
      rintro e w7 ⟨v7, rfl, hr7, hb7⟩
      have HR7 := Lib.hid hr7
      have HB7 := Lib.hid hb7; clear hb7 hr7
      go_wp2
      go_ret2
      exact ⟨_, rfl, HR7.out.mono (by omega), HB5.out.trans ((HBW.out.mono hz5).trans (HB7.out.mono (by omega)))⟩
set_option maxRecDepth 100000 in
set_option maxHeartbeats 4000000 in
theorem impl_MoveComplete_yes (m : Nat) (a b : Int) (v : Value) (l : List Int) (w : World) (h : isSz (m : Int) = true) (hv : Sl w v l) (hg : good (m : Int) l = true) (hc : cpt m (tbl m l) = true) (ha : inE (m : Int) a = true) (hb : inE (m : Int) b = true) :
    Calls Try.prog 26 #[.int .i64 m, v, .int .i64 a, .int .i64 b] w fun e w' => ∃ v', e = .returned (.tuple #[v', .bool true]) ∧ Row w' w.heap.size v' (ptl m (mvc m (tbl m l) a b)) ∧ Below w.heap.size w w' := by
  have HP := Lib.hid (vcp_T m v l w h hv hg hc)
  have HPA := Lib.hid (fun w => pairOf_yes (m : Int) a b w ha hb)
  have ea : El (m : Int) a := (inE_yes ha).2
  have eb : El (m : Int) b := (inE_yes hb).2
  have HSH := Lib.hid (fun v' w' (hp : IsP w' v' m (tbl m l)) => shiftedT m a v' (tbl m l) w' h hp ea)
  have HPE : Hid (∀ v' w', IsP w' v' m (fun x => tbl m l (addF m (x : Int) a).toNat) → Calls Try.prog 59 #[polyE (m : Int) v', elE (m : Int) b] w' fun e w'' => ∃ v'', e = .returned (polyE (m : Int) v'') ∧ IsP w'' v'' m (mvc m (tbl m l) a b) ∧ Below w'.heap.size w' w'') := Lib.hid fun v' w' hp => plusElementT m b v' _ w' h hp eb
  have HN := Lib.hid (fun v' w' (hp : IsP w' v' m (mvc m (tbl m l) a b)) => numbersT m v' (mvc m (tbl m l) a b) w' h hp)
  clear h hv hg hc ea eb ha hb
  generalize ptl m (mvc m (tbl m l) a b) = r at *
  generalize mvc m (tbl m l) a b = D at *
  generalize (fun x : Nat => tbl m l (addF m (x : Int) a).toNat) = D0 at *
  generalize tbl m l = t at *
  go_enter Try.func26, Try.ntmps26
  go_wp2_with fail
  refine HP.out.mono ?_
  rintro e w1 ⟨v1, rfl, hp1, hb1⟩
  obtain ⟨a1, k1, c1, rfl⟩ := hp1.slice
  have HP1 := Lib.hid hp1; clear hp1
  have hz_hb1 := hb1.size; (try simp at hz_hb1)
  have HB1 := Lib.hid hb1; clear hb1
  go_wp2_with fail
  refine (HPA.out _).mono ?_
  rintro e w2 ⟨rfl, hb2⟩
  have hz_hb2 := hb2.size; (try simp at hz_hb2)
  have HB2 := Lib.hid hb2
  have HP2 := Lib.hid (HP1.out.below (B := w1.heap.size) (w' := w2) (by (repeat' (first | (with_reducible assumption) | (with_reducible exact Below.refl _ _) | (with_reducible refine below_drewN ?_ _) | (with_reducible refine Below.drew ?_) | (with_reducible refine Below.alloc ?_ ?_ _) | (with_reducible refine Below.setCell ?_ ?_ _) | (with_reducible refine Below.trans ?_ (Below.mono (by assumption) ?_)) | (with_reducible exact Nat.le_refl _) | (with_reducible assumption) | omega | (simp; omega) | (simp; done)))) (Nat.le_refl _))
  have hp1 : w2.heap[w1.heap.size]? = some (pblk (m : Int) (.slice a1 k1 c1)) := (hb2.block _ (by simp)).trans (heap_alloc_new w1 _)
  clear hb2 HP1
  have HKEEP : Hid (∀ w', Below (w2.heap.size + 2) ((w2.alloc (eblk (m : Int) a)).alloc (eblk (m : Int) b)) w' → w'.cell? ⟨w1.heap.size, 0, none⟩ = some (.int .i64 m) ∧ w'.cell? ⟨w1.heap.size, 1, none⟩ = some (.int .i64 (pr m)) ∧ w'.cell? ⟨w1.heap.size, 2, none⟩ = some (.int .i64 (pl m)) ∧ w'.cell? ⟨w1.heap.size, 3, none⟩ = some (.slice a1 k1 c1) ∧ w'.cell? ⟨w2.heap.size, 0, none⟩ = some (.int .i64 m) ∧ w'.cell? ⟨w2.heap.size, 1, none⟩ = some (.int .i64 (pr m)) ∧ w'.cell? ⟨w2.heap.size, 2, none⟩ = some (.int .i64 (pl m)) ∧ w'.cell? ⟨w2.heap.size, 3, none⟩ = some (.int .i64 (dg m a 0)) ∧ w'.cell? ⟨w2.heap.size, 4, none⟩ = some (.int .i64 (dg m a 1)) ∧ w'.cell? ⟨w2.heap.size, 5, none⟩ = some (.int .i64 (dg m a 2)) ∧ w'.cell? ⟨w2.heap.size, 6, none⟩ = some (.int .i64 (dg m a 3)) ∧ w'.cell? ⟨w2.heap.size + 1, 0, none⟩ = some (.int .i64 m) ∧ w'.cell? ⟨w2.heap.size + 1, 1, none⟩ = some (.int .i64 (pr m)) ∧ w'.cell? ⟨w2.heap.size + 1, 2, none⟩ = some (.int .i64 (pl m)) ∧ w'.cell? ⟨w2.heap.size + 1, 3, none⟩ = some (.int .i64 (dg m b 0)) ∧ w'.cell? ⟨w2.heap.size + 1, 4, none⟩ = some (.int .i64 (dg m b 1)) ∧ w'.cell? ⟨w2.heap.size + 1, 5, none⟩ = some (.int .i64 (dg m b 2)) ∧ w'.cell? ⟨w2.heap.size + 1, 6, none⟩ = some (.int .i64 (dg m b 3))) := Lib.hid fun w' hb => by
    obtain ⟨t0, t1⟩ := two w2 (eblk (m : Int) a) (eblk (m : Int) b)
    obtain ⟨x0, x1, x2, x3, _⟩ := cells4 ((hb.block w1.heap.size (by omega)).trans ((Below.heap_alloc _ _ _ (by first | (simp; done) | (simp; omega))).trans ((Below.heap_alloc _ _ _ (by first | omega | (simp; omega))).trans hp1)))
    obtain ⟨y0, y1, y2, y3, y4, y5, y6, _⟩ := seven ((hb.block _ (by omega)).trans t0)
    obtain ⟨z0, z1, z2, z3, z4, z5, z6, _⟩ := seven ((hb.block _ (by omega)).trans t1)
    exact ⟨x0, x1, x2, x3, y0, y1, y2, y3, y4, y5, y6, z0, z1, z2, z3, z4, z5, z6⟩
  clear hp1
  go_wp2_with fail
  go_region_held3 (fun w' => w'.cell? ⟨w1.heap.size, 0, none⟩ = some (.int .i64 m) ∧ w'.cell? ⟨w1.heap.size, 1, none⟩ = some (.int .i64 (pr m)) ∧ w'.cell? ⟨w1.heap.size, 2, none⟩ = some (.int .i64 (pl m)) ∧ w'.cell? ⟨w1.heap.size, 3, none⟩ = some (.slice a1 k1 c1) ∧ w'.cell? ⟨w2.heap.size, 0, none⟩ = some (.int .i64 m) ∧ w'.cell? ⟨w2.heap.size, 1, none⟩ = some (.int .i64 (pr m)) ∧ w'.cell? ⟨w2.heap.size, 2, none⟩ = some (.int .i64 (pl m)) ∧ w'.cell? ⟨w2.heap.size, 3, none⟩ = some (.int .i64 (dg m a 0)) ∧ w'.cell? ⟨w2.heap.size, 4, none⟩ = some (.int .i64 (dg m a 1)) ∧ w'.cell? ⟨w2.heap.size, 5, none⟩ = some (.int .i64 (dg m a 2)) ∧ w'.cell? ⟨w2.heap.size, 6, none⟩ = some (.int .i64 (dg m a 3)) ∧ w'.cell? ⟨w2.heap.size + 1, 0, none⟩ = some (.int .i64 m) ∧ w'.cell? ⟨w2.heap.size + 1, 1, none⟩ = some (.int .i64 (pr m)) ∧ w'.cell? ⟨w2.heap.size + 1, 2, none⟩ = some (.int .i64 (pl m)) ∧ w'.cell? ⟨w2.heap.size + 1, 3, none⟩ = some (.int .i64 (dg m b 0)) ∧ w'.cell? ⟨w2.heap.size + 1, 4, none⟩ = some (.int .i64 (dg m b 1)) ∧ w'.cell? ⟨w2.heap.size + 1, 5, none⟩ = some (.int .i64 (dg m b 2)) ∧ w'.cell? ⟨w2.heap.size + 1, 6, none⟩ = some (.int .i64 (dg m b 3)))
    (exact HKEEP.out _ (by (try have hb3 := HB3.out); (try have hb4 := HB4.out); (try have hb5 := HB5.out); (repeat' (first | (with_reducible assumption) | (with_reducible exact Below.refl _ _) | (with_reducible refine below_drewN ?_ _) | (with_reducible refine Below.drew ?_) | (with_reducible refine Below.alloc ?_ ?_ _) | (with_reducible refine Below.setCell ?_ ?_ _) | (with_reducible refine Below.trans ?_ (Below.mono (by assumption) ?_)) | (with_reducible exact Nat.le_refl _) | (with_reducible assumption) | omega | (simp; omega) | (simp; done)))))
    (first
    | (go_at_call 58; refine (HSH.out _ _ (HP2.out.below (B := w2.heap.size) (by (repeat' (first | (with_reducible assumption) | (with_reducible exact Below.refl _ _) | (with_reducible refine below_drewN ?_ _) | (with_reducible refine Below.drew ?_) | (with_reducible refine Below.alloc ?_ ?_ _) | (with_reducible refine Below.setCell ?_ ?_ _) | (with_reducible refine Below.trans ?_ (Below.mono (by assumption) ?_)) | (with_reducible exact Nat.le_refl _) | (with_reducible assumption) | omega | (simp; omega) | (simp; done)))) (Nat.le_refl _))).mono ?_; rintro e w3 ⟨v3, rfl, hp3, hb3⟩; obtain ⟨a3, k3, c3, rfl⟩ := hp3.slice; have HP3 := Lib.hid hp3; clear hp3; obtain ⟨hc3, hf3⟩ := bcell hb3; (try simp only [World.size_drew] at hc3 hf3); have hz3 := hb3.size; (try simp at hz3); have HB3 := Lib.hid hb3; clear hb3; have l3 : w2.heap.size + 1 < w3.heap.size := (by omega); have l3' : w1.heap.size < w3.heap.size := (by omega))
    | (go_at_call 59; refine (HPE.out _ _ HP3.out).mono ?_; rintro e w4 ⟨v4, rfl, hp4, hb4⟩; obtain ⟨a4, k4, c4, rfl⟩ := hp4.slice; have HP4 := Lib.hid hp4; clear hp4; obtain ⟨hc4, hf4⟩ := bcell hb4; (try simp only [World.size_drew] at hc4 hf4); have hz4 := hb4.size; (try simp at hz4); have HB4 := Lib.hid hb4; clear hb4; have l4 : w2.heap.size + 1 < w4.heap.size := (by omega); have l4' : w1.heap.size < w4.heap.size := (by omega))
    | (go_at_call 48; refine (HN.out _ _ HP4.out).mono ?_; rintro e w5 ⟨v5, rfl, hr5, hb5⟩; have HR5 := Lib.hid hr5; clear hr5; obtain ⟨hc5, hf5⟩ := bcell hb5; (try simp only [World.size_drew] at hc5 hf5); have hz5 := hb5.size; (try simp at hz5); have HB5 := Lib.hid hb5; clear hb5))
  all_goals
    go_wp2
    go_ret2
    have hb1 := HB1.out
    have hb2 := HB2.out
    have hb3 := HB3.out
    have hb4 := HB4.out
    have hb5 := HB5.out
    exact ⟨_, rfl, HR5.out.mono (by first | omega | (simp; done) | (simp; omega)), by (repeat' (first | (with_reducible assumption) | (with_reducible exact Below.refl _ _) | (with_reducible refine below_drewN ?_ _) | (with_reducible refine Below.drew ?_) | (with_reducible refine Below.alloc ?_ ?_ _) | (with_reducible refine Below.setCell ?_ ?_ _) | (with_reducible refine Below.trans ?_ (Below.mono (by assumption) ?_)) | (with_reducible exact Nat.le_refl _) | (with_reducible assumption) | omega | (simp; omega) | (simp; done)))⟩
theorem key_MoveComplete (q : Int) (l_f : List Int) (b_f : l_f.length ≤ 1048576) (a : Int) (b : Int) : ∃ (r : List Int) (o : Bool), r.length ≤ 1048576 ∧ (∀ (w : World) (v_f : Value) (_ : Sl w v_f l_f), Calls Try.prog 25 #[.int .i64 q, v_f, .int .i64 a, .int .i64 b] w fun e w' => ∃ v, e = .returned (.tuple #[v, .bool o]) ∧ Row w' w.heap.size v r ∧ Below w.heap.size w w') ∧
      (∀ (w : World) (v_f : Value) (_ : Sl w v_f l_f), Calls Try.prog 26 #[.int .i64 q, v_f, .int .i64 a, .int .i64 b] w fun e w' => ∃ v, e = .returned (.tuple #[v, .bool o]) ∧ Row w' w.heap.size v r ∧ Below w.heap.size w w') := by
  cases hc : cpl q l_f with
  | false =>
    refine ⟨[], false, by simp, fun w v hv => (spec_MoveComplete_no0 q a b v l_f w hv b_f hc).mono fun _ _ ⟨he, hb⟩ => ⟨_, he, Row.nil _ _, hb⟩, fun w v hv => ?_⟩
    cases hp : inE q a && inE q b with
    | false => exact (impl_MoveComplete_no0 q a b v l_f w hv b_f hc hp).mono fun _ _ ⟨he, hb⟩ => ⟨_, he, Row.nil _ _, hb⟩
    | true =>
      simp only [Bool.and_eq_true] at hp
      exact (impl_MoveComplete_no1 q a b v l_f w hv b_f hc hp.1 hp.2).mono fun _ _ ⟨he, hb⟩ => ⟨_, he, Row.nil _ _, hb⟩
  | true =>
    obtain ⟨m, rfl, hs, hg, hcc⟩ := cpl_nat hc
    cases hp : inE (m : Int) a && inE (m : Int) b with
    | false =>
      refine ⟨[], false, by simp, fun w v hv => ?_, fun w v hv => (impl_MoveComplete_no2 (m : Int) a b v l_f w hv b_f hc hp).mono fun _ _ ⟨he, hb⟩ => ⟨_, he, Row.nil _ _, hb⟩⟩
      cases ha : inE (m : Int) a with
      | false => exact (spec_MoveComplete_no1 m a b v l_f w hs hv hg hcc ha).mono fun _ _ ⟨he, hb⟩ => ⟨_, he, Row.nil _ _, hb⟩
      | true =>
        rw [ha, Bool.true_and] at hp
        exact (spec_MoveComplete_no2 m a b v l_f w hs hv hg hcc ha hp).mono fun _ _ ⟨he, hb⟩ => ⟨_, he, Row.nil _ _, hb⟩
    | true =>
      simp only [Bool.and_eq_true] at hp
      have hq := isSz_le (m : Int) hs
      refine ⟨_, true, ?_, fun w v hv => spec_MoveComplete_yes m a b v l_f w hs hv hg hcc hp.1 hp.2, fun w v hv => impl_MoveComplete_yes m a b v l_f w hs hv hg hcc hp.1 hp.2⟩
      unfold ptl; rw [fl_len]; have := sn_le (ipl m (mvc m (tbl m l_f) a b) m) m; omega
set_option maxRecDepth 100000 in
set_option maxHeartbeats 4000000 in
/-- laws.FnExactMoveComplete. -/
theorem walk_FnExactMoveComplete (q : Int) (a_f : Option Addr) (n_f c_f : Nat) (z_f : List Int) (a : Int) (b : Int) (w : World) (_h_q : (Lit.int .i64 q).wf = true) (h_f : IsRow .i64 w a_f n_f c_f z_f) (_h_a : (Lit.int .i64 a).wf = true) (_h_b : (Lit.int .i64 b).wf = true) :
    Calls Try.prog 7 #[.int .i64 q, .slice a_f n_f c_f, .int .i64 a, .int .i64 b] w fun e w' => e = .returned (.bool true) ∧ Below w.heap.size w w' := by
  clear _h_q
  clear _h_a
  clear _h_b
  obtain ⟨hs_f, hl_f, _⟩ := h_f.sl
  generalize z_f.take n_f = l_f at *
  clear h_f
  subst hl_f
  by_cases b_f : l_f.length ≤ 1048576
  rotate_left
  · have hn_f : (1048576 : Int) < (l_f.length : Int) := by omega
    go_enter Try.func7, Try.ntmps7
    go_wp2
    go_ret
    exact ⟨rfl, Below.refl _ _⟩
  have hn_f : ¬ (1048576 : Int) < (l_f.length : Int) := by omega
  obtain ⟨r, o, hr, k1, k2⟩ := key_MoveComplete q l_f b_f a b
  have K1 := Lib.hid k1; clear k1
  have K2 := Lib.hid k2; clear k2
  have HS_f := Lib.hid hs_f; clear hs_f
  have HB0 : Hid (Below w.heap.size w w) := Lib.hid (Below.refl _ _)
  go_enter Try.func7, Try.ntmps7
  go_wp2_with fail
  refine (toIntS_any _ l_f _ (HS_f.out.below HB0.out (Nat.le_refl _)) b_f).mono ?_
  rintro e w1 ⟨v_s_f, rfl, hrw1, hbw1⟩
  have hzw1 : w.heap.size ≤ w1.heap.size := hbw1.size
  have HBw1 : Hid (Below w.heap.size w w1) := Lib.hid (HB0.out.trans (hbw1.mono HB0.out.size))
  have hww1 := HBw1.out.size
  clear hbw1 HB0
  have R_s_f_w1 := Lib.hid hrw1; clear hrw1
  have lt_s_f : Hid (∀ g, v_s_f.ownBlock = some g → w.heap.size ≤ g ∧ g < w1.heap.size) := Lib.hid R_s_f_w1.out.lt
  go_wp2_with fail
  refine (K1.out _ v_s_f R_s_f_w1.out.sl).mono ?_
  rintro e w2 ⟨v_sp, rfl, hrw2, hbw2⟩
  have hzw2 : w1.heap.size ≤ w2.heap.size := hbw2.size
  have R_s_f_w2 := Lib.hid (R_s_f_w1.out.below hbw2)
  clear R_s_f_w1
  have HBw2 : Hid (Below w.heap.size w w2) := Lib.hid (HBw1.out.trans (hbw2.mono HBw1.out.size))
  have hww2 := HBw2.out.size
  clear hbw2 HBw1
  have R_sp_w2 := Lib.hid hrw2; clear hrw2
  have lt_sp : Hid (∀ g, v_sp.ownBlock = some g → w1.heap.size ≤ g ∧ g < w2.heap.size) := Lib.hid R_sp_w2.out.lt
  clear R_s_f_w2 lt_s_f
  go_wp2_with fail
  refine (toIntS_any _ l_f _ (HS_f.out.below HBw2.out (Nat.le_refl _)) b_f).mono ?_
  rintro e w3 ⟨v_x_f, rfl, hrw3, hbw3⟩
  have hzw3 : w2.heap.size ≤ w3.heap.size := hbw3.size
  have R_sp_w3 := Lib.hid (R_sp_w2.out.below hbw3)
  clear R_sp_w2
  have HBw3 : Hid (Below w.heap.size w w3) := Lib.hid (HBw2.out.trans (hbw3.mono HBw2.out.size))
  have hww3 := HBw3.out.size
  clear hbw3 HBw2
  have R_x_f_w3 := Lib.hid hrw3; clear hrw3
  have lt_x_f : Hid (∀ g, v_x_f.ownBlock = some g → w2.heap.size ≤ g ∧ g < w3.heap.size) := Lib.hid R_x_f_w3.out.lt
  go_wp2_with fail
  refine (K2.out _ v_x_f R_x_f_w3.out.sl).mono ?_
  rintro e w4 ⟨v_im, rfl, hrw4, hbw4⟩
  have hzw4 : w3.heap.size ≤ w4.heap.size := hbw4.size
  have R_sp_w4 := Lib.hid (R_sp_w3.out.below hbw4)
  clear R_sp_w3
  have R_x_f_w4 := Lib.hid (R_x_f_w3.out.below hbw4)
  clear R_x_f_w3
  have HBw4 : Hid (Below w.heap.size w w4) := Lib.hid (HBw3.out.trans (hbw4.mono HBw3.out.size))
  have hww4 := HBw4.out.size
  clear hbw4 HBw3
  have R_im_w4 := Lib.hid hrw4; clear hrw4
  have lt_im : Hid (∀ g, v_im.ownBlock = some g → w3.heap.size ≤ g ∧ g < w4.heap.size) := Lib.hid R_im_w4.out.lt
  go_wp2_with fail
  refine (eq_same v_im v_sp r _ _ _ R_im_w4.out R_sp_w4.out (by omega)).mono ?_
  rintro e w5 ⟨rfl, hbw5⟩
  have hzw5 : w4.heap.size ≤ w5.heap.size := hbw5.size
  have R_sp_w5 := Lib.hid (R_sp_w4.out.below hbw5)
  clear R_sp_w4
  have R_x_f_w5 := Lib.hid (R_x_f_w4.out.below hbw5)
  clear R_x_f_w4
  have R_im_w5 := Lib.hid (R_im_w4.out.below hbw5)
  clear R_im_w4
  have HBw5 : Hid (Below w.heap.size w w5) := Lib.hid (HBw4.out.trans (hbw5.mono HBw4.out.size))
  have hww5 := HBw5.out.size
  clear hbw5 HBw4
  go_wp2_with fail
  refine (toIntS_any _ l_f _ (HS_f.out.below HBw5.out (Nat.le_refl _)) b_f).mono ?_
  rintro e w6 ⟨v_y_f, rfl, hrw6, hbw6⟩
  have hzw6 : w5.heap.size ≤ w6.heap.size := hbw6.size
  have R_sp_w6 := Lib.hid (R_sp_w5.out.below hbw6)
  clear R_sp_w5
  have R_x_f_w6 := Lib.hid (R_x_f_w5.out.below hbw6)
  clear R_x_f_w5
  have R_im_w6 := Lib.hid (R_im_w5.out.below hbw6)
  clear R_im_w5
  have HBw6 : Hid (Below w.heap.size w w6) := Lib.hid (HBw5.out.trans (hbw6.mono HBw5.out.size))
  have hww6 := HBw6.out.size
  clear hbw6 HBw5
  have R_y_f_w6 := Lib.hid hrw6; clear hrw6
  have lt_y_f : Hid (∀ g, v_y_f.ownBlock = some g → w5.heap.size ≤ g ∧ g < w6.heap.size) := Lib.hid R_y_f_w6.out.lt
  go_wp2_with fail
  refine (eq_same v_x_f v_y_f l_f _ _ _ R_x_f_w6.out R_y_f_w6.out (by omega)).mono ?_
  rintro e w7 ⟨rfl, hbw7⟩
  have hzw7 : w6.heap.size ≤ w7.heap.size := hbw7.size
  have R_sp_w7 := Lib.hid (R_sp_w6.out.below hbw7)
  clear R_sp_w6
  have R_x_f_w7 := Lib.hid (R_x_f_w6.out.below hbw7)
  clear R_x_f_w6
  have R_im_w7 := Lib.hid (R_im_w6.out.below hbw7)
  clear R_im_w6
  have R_y_f_w7 := Lib.hid (R_y_f_w6.out.below hbw7)
  clear R_y_f_w6
  have HBw7 : Hid (Below w.heap.size w w7) := Lib.hid (HBw6.out.trans (hbw7.mono HBw6.out.size))
  have hww7 := HBw7.out.size
  clear hbw7 HBw6
  clear R_y_f_w7 lt_y_f
  go_wp2_with fail
  refine (mark_any v_x_f l_f _ (1) _ R_x_f_w7.out (by omega) (by omega) (by omega)).mono ?_
  rintro e w8 ⟨rfl, hrw8, hgw8⟩
  have hzw8 : w7.heap.size ≤ w8.heap.size := hgw8.size
  have R_sp_w8 := Lib.hid (R_sp_w7.out.keep (w' := w8) fun g hg => hgw8.block g (R_sp_w7.out.lt g hg).2 fun e => by have h1 := lt_sp.out g hg; have h2 := lt_x_f.out g e.symm; omega)
  clear R_sp_w7
  have R_im_w8 := Lib.hid (R_im_w7.out.keep (w' := w8) fun g hg => hgw8.block g (R_im_w7.out.lt g hg).2 fun e => by have h1 := lt_im.out g hg; have h2 := lt_x_f.out g e.symm; omega)
  clear R_im_w7
  have HBw8 : Hid (Below w.heap.size w w8) := Lib.hid (Below.grown HBw7.out hgw8 (by omega) (fun g e => by have h2 := lt_x_f.out g e; omega))
  have hww8 := HBw8.out.size
  have R_x_f_w8 := Lib.hid hrw8
  clear hrw8 hgw8 HBw7 R_x_f_w7
  clear R_x_f_w8 lt_x_f
  have hpos : ¬ (1 + (l_f.length : Int)) < (0 : Int) := by omega
  go_wp2_with fail
  refine (eq_same v_im v_sp r _ _ _ R_im_w8.out R_sp_w8.out (by omega)).mono ?_
  rintro e w9 ⟨rfl, hbw9⟩
  have hzw9 : w8.heap.size ≤ w9.heap.size := hbw9.size
  have R_sp_w9 := Lib.hid (R_sp_w8.out.below hbw9)
  clear R_sp_w8
  have R_im_w9 := Lib.hid (R_im_w8.out.below hbw9)
  clear R_im_w8
  have HBw9 : Hid (Below w.heap.size w w9) := Lib.hid (HBw8.out.trans (hbw9.mono HBw8.out.size))
  have hww9 := HBw9.out.size
  clear hbw9 HBw8
  go_wp2_with fail
  refine (mark_any v_im r _ (1) _ R_im_w9.out (by omega) (by omega) (by omega)).mono ?_
  rintro e w10 ⟨rfl, hrw10, hgw10⟩
  have hzw10 : w9.heap.size ≤ w10.heap.size := hgw10.size
  have R_sp_w10 := Lib.hid (R_sp_w9.out.keep (w' := w10) fun g hg => hgw10.block g (R_sp_w9.out.lt g hg).2 fun e => by have h1 := lt_sp.out g hg; have h2 := lt_im.out g e.symm; omega)
  clear R_sp_w9
  have HBw10 : Hid (Below w.heap.size w w10) := Lib.hid (Below.grown HBw9.out hgw10 (by omega) (fun g e => by have h2 := lt_im.out g e; omega))
  have hww10 := HBw10.out.size
  have R_im_w10 := Lib.hid hrw10
  clear hrw10 hgw10 HBw9 R_im_w9
  go_wp2_with fail
  refine (held_any v_im r.length _ (1) _ R_im_w10.out (by omega) (by omega) (by omega)).mono ?_
  rintro e wx1 ⟨rfl, rfl⟩
  go_wp2_with fail
  refine (toIntS_any _ l_f _ (HS_f.out.below HBw10.out (Nat.le_refl _)) b_f).mono ?_
  rintro e w11 ⟨v_t_f, rfl, hrw11, hbw11⟩
  have hzw11 : w10.heap.size ≤ w11.heap.size := hbw11.size
  have R_sp_w11 := Lib.hid (R_sp_w10.out.below hbw11)
  clear R_sp_w10
  have R_im_w11 := Lib.hid (R_im_w10.out.below hbw11)
  clear R_im_w10
  have HBw11 : Hid (Below w.heap.size w w11) := Lib.hid (HBw10.out.trans (hbw11.mono HBw10.out.size))
  have hww11 := HBw11.out.size
  clear hbw11 HBw10
  have R_t_f_w11 := Lib.hid hrw11; clear hrw11
  have lt_t_f : Hid (∀ g, v_t_f.ownBlock = some g → w10.heap.size ≤ g ∧ g < w11.heap.size) := Lib.hid R_t_f_w11.out.lt
  go_wp2_with fail
  refine (K2.out _ v_t_f R_t_f_w11.out.sl).mono ?_
  rintro e w12 ⟨v_im2, rfl, hrw12, hbw12⟩
  have hzw12 : w11.heap.size ≤ w12.heap.size := hbw12.size
  have R_sp_w12 := Lib.hid (R_sp_w11.out.below hbw12)
  clear R_sp_w11
  have R_im_w12 := Lib.hid (R_im_w11.out.below hbw12)
  clear R_im_w11
  have R_t_f_w12 := Lib.hid (R_t_f_w11.out.below hbw12)
  clear R_t_f_w11
  have HBw12 : Hid (Below w.heap.size w w12) := Lib.hid (HBw11.out.trans (hbw12.mono HBw11.out.size))
  have hww12 := HBw12.out.size
  clear hbw12 HBw11
  have R_im2_w12 := Lib.hid hrw12; clear hrw12
  have lt_im2 : Hid (∀ g, v_im2.ownBlock = some g → w11.heap.size ≤ g ∧ g < w12.heap.size) := Lib.hid R_im2_w12.out.lt
  clear R_t_f_w12 lt_t_f
  go_wp2_with fail
  refine (eq_same v_im2 v_sp r _ _ _ R_im2_w12.out R_sp_w12.out (by omega)).mono ?_
  rintro e w13 ⟨rfl, hbw13⟩
  have hzw13 : w12.heap.size ≤ w13.heap.size := hbw13.size
  have R_sp_w13 := Lib.hid (R_sp_w12.out.below hbw13)
  clear R_sp_w12
  have R_im_w13 := Lib.hid (R_im_w12.out.below hbw13)
  clear R_im_w12
  have R_im2_w13 := Lib.hid (R_im2_w12.out.below hbw13)
  clear R_im2_w12
  have HBw13 : Hid (Below w.heap.size w w13) := Lib.hid (HBw12.out.trans (hbw13.mono HBw12.out.size))
  have hww13 := HBw13.out.size
  clear hbw13 HBw12
  go_wp2_with fail
  refine (held_any v_im r.length _ (1) _ R_im_w13.out (by omega) (by omega) (by omega)).mono ?_
  rintro e wx2 ⟨rfl, rfl⟩
  go_wp2
  go_ret
  exact ⟨rfl, HBw13.out⟩
end Go.Proofs.Ytimpgbifnijkkaa
