/- TwistPoints, of both, by contracts; the walk of its law. -/
import Derived.Test.YtimpgbifnijkkabTF
namespace Go.Proofs.Ytimpgbifnijkkab
open Go.RowKit
/-- How many of the first numbers have a property. -/
def ncn (P : Nat → Bool) : Nat → Int
  | 0 => 0
  | n + 1 => ncn P n + (if P n then 1 else 0)
theorem ncn_bd (P : Nat → Bool) : ∀ n : Nat, 0 ≤ ncn P n ∧ ncn P n ≤ (n : Int)
  | 0 => ⟨Int.le_refl _, Int.le_refl _⟩
  | n + 1 => by
    have h1 := ncn_bd P n
    show 0 ≤ ncn P n + (if P n then 1 else 0) ∧ ncn P n + (if P n then 1 else 0) ≤ ((n + 1 : Nat) : Int)
    split <;> omega
theorem csm_bd2 {c : Nat → Int} (h : ∀ i, 0 ≤ c i ∧ c i ≤ 16) : ∀ n : Nat, 0 ≤ csm c n ∧ csm c n ≤ 16 * (n : Int)
  | 0 => ⟨Int.le_refl _, Int.le_refl _⟩
  | n + 1 => by
    have h1 := csm_bd2 h n
    have h2 := h n
    show 0 ≤ csm c n + c n ∧ csm c n + c n ≤ 16 * ((n + 1 : Nat) : Int)
    omega
theorem csm_less {c d : Nat → Int} : ∀ n : Nat, (∀ i, i < n → d i = 1 - c i) → csm d n = (n : Int) - csm c n
  | 0, _ => rfl
  | n + 1, h => by
    show csm d n + d n = ((n + 1 : Nat) : Int) - (csm c n + c n)
    rw [csm_less n (fun i hi => h i (by omega)), h n (by omega)]
    omega
/-- The least element with the character -1. -/
def fnr (m : Nat) : Nat := ((List.range 15).findIdx fun n => chi m ((n + 1 : Nat) : Int) == -1) + 1
def odds : List Nat := [3, 5, 7, 9, 11, 13]
theorem odds_of {m : Nat} (h : isSz (m : Int) = true) (ho : (m : Int) % 2 = 1) : m ∈ odds := by
  have hq := isSz_le (m : Int) h
  have hk : ∀ n ∈ List.range 17, isSz ((n : Nat) : Int) = true → n % 2 = 1 → n ∈ odds := by decide +kernel
  exact hk m (List.mem_range.2 (by omega)) h (by omega)
theorem fnr_is {m : Nat} (h : isSz (m : Int) = true) (ho : (m : Int) % 2 = 1) : chi m (fnr m : Int) = -1 ∧ 1 ≤ fnr m ∧ fnr m < m ∧ ∀ i ∈ List.range (fnr m), 1 ≤ i → chi m (i : Int) ≠ -1 := by
  have hk : ∀ m ∈ odds, chi m (fnr m : Int) = -1 ∧ 1 ≤ fnr m ∧ fnr m < m ∧ ∀ i ∈ List.range (fnr m), 1 ≤ i → chi m (i : Int) ≠ -1 := by decide +kernel
  exact hk m (odds_of h ho)
def twQ (m : Nat) (z : Int) : Nat → Bool := fun y => decide (mulF m (fnr m) (mulF m (y : Int) (y : Int)) = z)
theorem twist_one {m : Nat} (h : isSz (m : Int) = true) (ho : (m : Int) % 2 = 1) {z : Int} (hz : El (m : Int) z) : ncn (twQ m z) m = 1 - chi m z := by
  have hk : ∀ m ∈ odds, ∀ z ∈ List.range m, ncn (twQ m (z : Int)) m = 1 - chi m (z : Int) := by decide +kernel
  obtain ⟨k, rfl⟩ := Int.eq_ofNat_of_zero_le hz.1
  exact hk m (odds_of h ho) k (List.mem_range.2 (by have := hz.2; omega))
/-- Points of the twist. -/
def tws (m : Nat) (t : Nat → Int) : Int := 2 * (m : Int) - ((m : Int) + chs m t)
theorem tws_all {m : Nat} {t : Nat → Int} (h : isSz (m : Int) = true) (ho : (m : Int) % 2 = 1) (ht : ∀ i, i < m → El (m : Int) (t i)) : csm (fun x => ncn (twQ m (t x)) m) m = tws m t := by
  rw [csm_less (c := fun x => chi m (t x)) m (fun i hi => twist_one h ho (ht i hi))]
  unfold tws chs
  omega
set_option maxRecDepth 100000 in
set_option maxHeartbeats 4000000 in
theorem spec_TwistPoints_yes (m : Nat) (v : Value) (l : List Int) (w : World) (h : isSz (m : Int) = true) (ho : (m : Int) % 2 = 1) (hv : Sl w v l) (hg : good (m : Int) l = true) :
    Calls Try.prog 36 #[.int .i64 m, v] w fun e w' => e = .returned (.tuple #[.int .i64 (tws m (tbo m l)), .bool true]) ∧ Below w.heap.size w w' := by
  have hq := isSz_le (m : Int) h
  have hlen := (good_parts hg).1
  have hp := ctAsked_any (m : Int) v l w hv (by omega)
  rw [show ota (m : Int) l = true by simp [ota, odq, h, ho, hg]] at hp
  have HP := Lib.hid hp
  clear hp
  have HV : Hid (∀ w', Below w.heap.size w w' → Calls Try.prog 74 #[.int .i64 m, v] w' fun e w'' => ∃ v', e = .returned v' ∧ Row w'' w'.heap.size v' (fl (tbo m l) m) ∧ Below w'.heap.size w' w'') := Lib.hid fun w' hb => by
    have := plValues_any (m : Int) v l w' h (hv.below hb (Nat.le_refl _)) hg
    rw [Int.toNat_natCast] at this
    exact this
  have HT := Lib.hid (fun i hi => tbo_el h hg i hi)
  generalize tbo m l = t at *
  rw [← tws_all h ho HT.out]
  obtain ⟨hn1, hn2, hn3, hn4⟩ := fnr_is h ho
  have HN1 := Lib.hid hn1
  have HN4 := Lib.hid hn4
  have HCT := Lib.hid (fun (a : Nat) w (ha : a < m) => ctOf_any m (a : Int) w h ho (by omega) (by omega))
  have HM1 := Lib.hid (fun (y : Nat) w (hy : y < m) => fdTimes_any (m : Int) (y : Int) (y : Int) w h (by omega) (by omega) (by omega) (by omega))
  have HM2 := Lib.hid (fun (y : Nat) w (hy : y < m) => fdTimes_any (m : Int) (fnr m : Int) (mulF m (y : Int) (y : Int)) w h (by omega) (by omega) (mulF_bd (m : Int) _ _ h (by omega) (by omega) (by omega) (by omega)).1 (mulF_bd (m : Int) _ _ h (by omega) (by omega) (by omega) (by omega)).2)
  have HQ : Hid (∀ (z : Int) (y : Nat), twQ m z y = decide (mulF m (fnr m) (mulF m (y : Int) (y : Int)) = z)) := Lib.hid fun _ _ => rfl
  have HSN : Hid (∀ z k, ncn (twQ m z) (k + 1) = ncn (twQ m z) k + (if twQ m z k then 1 else 0)) := Lib.hid fun _ _ => rfl
  have HSN0 : Hid (∀ z, ncn (twQ m z) 0 = 0) := Lib.hid fun _ => rfl
  have HBN := Lib.hid (fun z k => ncn_bd (twQ m z) k)
  have HSC : Hid (∀ k, csm (fun x => ncn (twQ m (t x)) m) (k + 1) = csm (fun x => ncn (twQ m (t x)) m) k + ncn (twQ m (t k)) m) := Lib.hid fun _ => rfl
  have HSC0 : Hid (csm (fun x => ncn (twQ m (t x)) m) 0 = 0) := Lib.hid rfl
  have HBC := Lib.hid (csm_bd2 (c := fun x => ncn (twQ m (t x)) m) (fun i => ⟨(ncn_bd (twQ m (t i)) m).1, by have := (ncn_bd (twQ m (t i)) m).2; omega⟩))
  clear h hg hv hn1 hn4 HT
  generalize csm (fun x => ncn (twQ m (t x)) m) = C at *
  generalize fnr m = N at *
  go_enter Try.func36, Try.ntmps36
  go_wp2_with fail
  refine HP.out.mono ?_
  rintro e w1 ⟨rfl, hb1⟩
  have HB1 := Lib.hid hb1; clear hb1
  go_wp2_with fail
  go_loopw [6] (fun vn wr => ∃ n : Nat, 1 ≤ n ∧ n ≤ N ∧ vn = .int .i64 n ∧ Below w.heap.size w wr) (fun vn _ => N - (intOf vn).toNat)
  case atStart => exact ⟨1, Nat.le_refl _, hn2, rfl, HB1.out⟩
  case round =>
    obtain ⟨n, hna, hnb, rfl, hb⟩ := hrel
    have hzb := hb.size
    have HBB := Lib.hid hb; clear hb
    have HC' := Lib.hid (fun w => HCT.out n w (by omega))
    by_cases hlt : n < N
    · have hne : (chi m (n : Int) != -1) = true := by
        have := HN4.out n (List.mem_range.2 hlt) hna
        simpa using this
      generalize chi (m : Int) (n : Int) = c at *
      go_wp2_with fail
      refine (HC'.out _).mono ?_
      rintro e w2 ⟨rfl, hb2⟩
      have HB2 := Lib.hid (HBB.out.trans (hb2.mono hzb)); clear hb2
      go_wp2
      go_roundw
      case rel => exact ⟨n + 1, by omega, by omega, by go_num, HB2.out⟩
      case measure => simp [intOf]; omega
    · obtain rfl : N = n := by omega
      have HC'' : Hid (∀ w, Calls Try.prog 62 #[.int .i64 m, .int .i64 N] w fun e w' => e = .returned (.int .i64 (-1)) ∧ Below w.heap.size w w') := Lib.hid fun w => by
        have := HC'.out w
        rw [HN1.out] at this
        exact this
      clear HC'
      go_wp2_with fail
      refine (HC''.out _).mono ?_
      rintro e w2 ⟨rfl, hb2⟩
      have HB2 := Lib.hid (HBB.out.trans (hb2.mono hzb)); clear hb2
      go_wp2_with fail
      refine (HV.out _ HB2.out).mono ?_
      rintro e w3 ⟨v3, rfl, hr3, hb3⟩
      have hz2 := HB2.out.size
      have hz3 := hb3.size
      obtain ⟨g, cp, rfl, hg1, hg2⟩ := hr3.form (by rw [fl_len]; omega)
      have HR := Lib.hid (fun (i : Nat) (hi : i < m) => by
        have := hr3.cell i (by rw [fl_len]; exact hi)
        rw [fl_get _ _ _ hi] at this
        exact this)
      rw [fl_len]
      have HB3 : Hid (Below w.heap.size w w3) := Lib.hid (HB2.out.trans (hb3.mono hz2))
      clear hr3 hb3
      go_wp2_with fail
      go_loopw [7, 25] (fun vc vi ws => ∃ i : Nat, i ≤ m ∧ vi = .int .i64 i ∧ vc = .int .i64 (C i) ∧ Below w3.heap.size w3 ws) (fun _ vi _ => m - (intOf vi).toNat)
      case atStart => exact ⟨0, Nat.zero_le _, rfl, by rw [HSC0.out], Below.refl _ _⟩
      case round =>
        obtain ⟨i, him, rfl, rfl, hb⟩ := hrel
        obtain ⟨wo, rfl⟩ : ∃ x : World, x = wr := ⟨_, rfl⟩
        have hzo := hb.size
        by_cases hi : i < m
        · have hc := (hb.cell (p := ⟨g, i, none⟩) hg2).trans (HR.out i hi)
          have b1 := HBC.out i
          have b2 := fun k => HBN.out (t i) k
          have HBN' := Lib.hid b2; clear b2
          have HSC' := Lib.hid (HSC.out i)
          have HSN' := Lib.hid (HSN.out (t i))
          have HQ' := Lib.hid (HQ.out (t i))
          have HN0' := Lib.hid (HSN0.out (t i))
          have HBo := Lib.hid hb; clear hb
          generalize C i = s at *
          generalize t i = z at *
          generalize twQ m z = P at *
          go_wp2_with fail
          go_loopw [7, 10] (fun vc vy ws => ∃ y : Nat, y ≤ m ∧ vy = .int .i64 y ∧ vc = .int .i64 (s + ncn P y) ∧ Below wo.heap.size wo ws) (fun _ vy _ => m - (intOf vy).toNat)
          case atStart => exact ⟨0, Nat.zero_le _, rfl, by rw [HN0'.out, Int.add_zero], Below.refl _ _⟩
          case round =>
            obtain ⟨y, hym, rfl, rfl, hbs⟩ := hrel
            have hzs := hbs.size
            have c1 := HBN'.out y
            by_cases hy : y < m
            · have HX1 := Lib.hid (fun w => HM1.out y w hy)
              have HX2 := Lib.hid (fun w => HM2.out y w hy)
              have HSY := Lib.hid (HSN'.out y)
              have HQY := Lib.hid (HQ'.out y)
              have HBS := Lib.hid hbs; clear hbs
              generalize mulF (m : Int) (y : Int) (y : Int) = x1 at *
              generalize mulF (m : Int) (N : Int) x1 = x2 at *
              obtain ⟨nx, hnx⟩ : ∃ nx, ncn P (y + 1) = nx := ⟨_, rfl⟩
              rw [hnx] at HSY
              have HNX := Lib.hid hnx; clear hnx
              generalize ncn P y = c at *
              by_cases hx : x2 = z
              · have HE : Hid (nx = c + 1) := Lib.hid (by rw [HSY.out, HQY.out, decide_eq_true hx]; rfl)
                have hxb : (x2 == z) = true := by simpa using hx
                have hwr : IntKind.i64.wrap (s + c + 1) = s + c + 1 := IntWalk.i64_in _ (by omega)
                clear HSY HQY hx
                go_wp2_with fail
                refine (HX1.out _).mono ?_
                rintro e w5 ⟨rfl, hb5⟩
                have hz5 := hb5.size
                go_wp2_with fail
                refine (HX2.out _).mono ?_
                rintro e w6 ⟨rfl, hb6⟩
                have HB6 : Hid (Below wo.heap.size wo w6) := Lib.hid (HBS.out.trans ((hb5.trans (hb6.mono hz5)).mono hzs))
                clear hb5 hb6
                go_wp2
                go_roundw
                case rel => exact ⟨y + 1, by omega, by go_num, by rw [HNX.out, HE.out, ← Int.add_assoc], HB6.out⟩
                case measure => simp [intOf]; omega
              · have HE : Hid (nx = c) := Lib.hid (by rw [HSY.out, HQY.out, decide_eq_false hx]; simp)
                have hxb : (x2 == z) = false := by simpa using hx
                clear HSY HQY hx
                go_wp2_with fail
                refine (HX1.out _).mono ?_
                rintro e w5 ⟨rfl, hb5⟩
                have hz5 := hb5.size
                go_wp2_with fail
                refine (HX2.out _).mono ?_
                rintro e w6 ⟨rfl, hb6⟩
                have HB6 : Hid (Below wo.heap.size wo w6) := Lib.hid (HBS.out.trans ((hb5.trans (hb6.mono hz5)).mono hzs))
                clear hb5 hb6
                go_wp2
                go_roundw
                case rel => exact ⟨y + 1, by omega, by go_num, by rw [HNX.out, HE.out], HB6.out⟩
                case measure => simp [intOf]; omega
            · obtain rfl : m = y := by omega
              have HB5 : Hid (Below w3.heap.size w3 wr) := Lib.hid (HBo.out.trans (hbs.mono hzo))
              have hnot : ¬ ((m : Int) < (m : Int)) := by omega
              clear hbs
              generalize ncn P m = c at *
              go_wp2
              go_roundw
              case rel => exact ⟨i + 1, by omega, by go_num, by rw [HSC'.out], HB5.out⟩
              case measure => simp [intOf]; omega
        · obtain rfl : m = i := by omega
          have HB5 : Hid (Below w.heap.size w wo) := Lib.hid (HB3.out.trans (hb.mono HB3.out.size))
          clear hb
          go_wp2
          go_ret2
          exact ⟨rfl, HB5.out⟩
set_option maxRecDepth 100000 in
set_option maxHeartbeats 4000000 in
theorem impl_TwistPoints_yes (m : Nat) (v : Value) (l : List Int) (w : World) (h : isSz (m : Int) = true) (ho : (m : Int) % 2 = 1) (hv : Sl w v l) (hg : good (m : Int) l = true) :
    Calls Try.prog 35 #[.int .i64 m, v] w fun e w' => e = .returned (.tuple #[.int .i64 (tws m (tbo m l)), .bool true]) ∧ Below w.heap.size w w' := by
  have hq := isSz_le (m : Int) h
  have hlen := (good_parts hg).1
  have HP := Lib.hid (validOddPoly_yes m v l w h ho hv hg)
  have hbd := chs_bd m (tbo m l)
  have HS := Lib.hid (fun g w' (hg1 : g < w'.heap.size) (he : Els w' g (m : Int) (fun i => l.getD i 0) l.length) => countPointsE m g l.length l.length (fun i => l.getD i 0) w' h hg1 he (good_el hg) (by omega))
  change Hid (∀ g w', _ → _ → Calls _ _ _ _ fun e w'' => e = .returned (.int .i64 ((m : Int) + chs m (tbo m l))) ∧ _) at HS
  unfold tws
  clear h hg hv
  generalize chs m (tbo m l) = r at *
  obtain ⟨y, hy⟩ : ∃ y, (m : Int) + r = y := ⟨_, rfl⟩
  rw [hy] at HS ⊢
  have hyb : 0 ≤ y ∧ y ≤ 32 := by omega
  clear hy
  have hw1 : IntKind.i64.wrap (2 * (m : Int)) = 2 * (m : Int) := IntWalk.i64_in _ (by omega)
  have hw2 : IntKind.i64.wrap (2 * (m : Int) - y) = 2 * (m : Int) - y := IntWalk.i64_in _ (by omega)
  go_enter Try.func35, Try.ntmps35
  go_wp2_with fail
  refine HP.out.mono ?_
  rintro e w1 ⟨g, rfl, hgl, he, hb1⟩
  have HE := Lib.hid he
  have HB1 := Lib.hid hb1; clear he hb1
  go_wp2_with fail
  refine (HS.out g _ (by simp; omega) (HE.out.below (B := w1.heap.size) (by (repeat' (first | (with_reducible assumption) | (with_reducible exact Below.refl _ _) | (with_reducible refine below_drewN ?_ _) | (with_reducible refine Below.drew ?_) | (with_reducible refine Below.alloc ?_ ?_ _) | (with_reducible refine Below.setCell ?_ ?_ _) | (with_reducible refine Below.trans ?_ (Below.mono (by assumption) ?_)) | (with_reducible exact Nat.le_refl _) | (with_reducible assumption) | omega | (simp; omega) | (simp; done)))) hgl)).mono ?_
  rintro e w2 ⟨rfl, hb2⟩
  have HB2 := Lib.hid hb2; clear hb2
  go_wp2
  go_ret2
  have hb1 := HB1.out
  have hz1 := hb1.size
  have hb2 := HB2.out
  exact ⟨rfl, by (repeat' (first | (with_reducible assumption) | (with_reducible exact Below.refl _ _) | (with_reducible refine below_drewN ?_ _) | (with_reducible refine Below.drew ?_) | (with_reducible refine Below.alloc ?_ ?_ _) | (with_reducible refine Below.setCell ?_ ?_ _) | (with_reducible refine Below.trans ?_ (Below.mono (by assumption) ?_)) | (with_reducible exact Nat.le_refl _) | (with_reducible assumption) | omega | (simp; omega) | (simp; done)))⟩
theorem spec_TwistPoints_no (q : Int) (v : Value) (l : List Int) (w : World) (hv : Sl w v l) (hl : l.length ≤ 1048576) (hn : ota q l = false) :
    Calls Try.prog 36 #[.int .i64 q, v] w fun e w' => e = .returned (.tuple #[.int .i64 0, .bool false]) ∧ Below w.heap.size w w' := by
  have hp := ctAsked_any q v l w hv hl
  rw [hn] at hp
  have HP := Lib.hid hp
  clear hp hv hn hl
  go_enter Try.func36, Try.ntmps36
  go_wp2_with fail
  refine HP.out.mono ?_
  rintro e w1 ⟨rfl, hb1⟩
  have HB1 : Hid (Below w.heap.size w w1) := Lib.hid (by first | exact hb1 | (repeat' (first | (with_reducible assumption) | (with_reducible exact Below.refl _ _) | (with_reducible refine below_drewN ?_ _) | (with_reducible refine Below.drew ?_) | (with_reducible refine Below.alloc ?_ ?_ _) | (with_reducible refine Below.setCell ?_ ?_ _) | (with_reducible refine Below.trans ?_ (Below.mono (by assumption) ?_)) | (with_reducible exact Nat.le_refl _) | (with_reducible assumption) | omega | (simp; omega) | (simp; done))))
  clear hb1
  go_wp2_with fail
  go_ret2
  have hb1 := HB1.out
  have hz1 := hb1.size
  exact ⟨rfl, by (repeat' (first | (with_reducible assumption) | (with_reducible exact Below.refl _ _) | (with_reducible refine below_drewN ?_ _) | (with_reducible refine Below.drew ?_) | (with_reducible refine Below.alloc ?_ ?_ _) | (with_reducible refine Below.setCell ?_ ?_ _) | (with_reducible refine Below.trans ?_ (Below.mono (by assumption) ?_)) | (with_reducible exact Nat.le_refl _) | (with_reducible assumption) | omega | (simp; omega) | (simp; done)))⟩
theorem impl_TwistPoints_no (q : Int) (v : Value) (l : List Int) (w : World) (hv : Sl w v l) (hl : l.length ≤ 1048576) (hn : ota q l = false) :
    Calls Try.prog 35 #[.int .i64 q, v] w fun e w' => e = .returned (.tuple #[.int .i64 0, .bool false]) ∧ Below w.heap.size w w' := by
  have HP := Lib.hid (validOddPoly_no q v l w hv hl hn)
  clear hv hl hn
  go_enter Try.func35, Try.ntmps35
  go_wp2_with fail
  refine HP.out.mono ?_
  rintro e w1 ⟨rfl, hb1⟩
  have HB1 : Hid (Below w.heap.size w w1) := Lib.hid (by first | exact hb1 | (repeat' (first | (with_reducible assumption) | (with_reducible exact Below.refl _ _) | (with_reducible refine below_drewN ?_ _) | (with_reducible refine Below.drew ?_) | (with_reducible refine Below.alloc ?_ ?_ _) | (with_reducible refine Below.setCell ?_ ?_ _) | (with_reducible refine Below.trans ?_ (Below.mono (by assumption) ?_)) | (with_reducible exact Nat.le_refl _) | (with_reducible assumption) | omega | (simp; omega) | (simp; done))))
  clear hb1
  go_wp2_with fail
  go_ret2
  have hb1 := HB1.out
  have hz1 := hb1.size
  exact ⟨rfl, by (repeat' (first | (with_reducible assumption) | (with_reducible exact Below.refl _ _) | (with_reducible refine below_drewN ?_ _) | (with_reducible refine Below.drew ?_) | (with_reducible refine Below.alloc ?_ ?_ _) | (with_reducible refine Below.setCell ?_ ?_ _) | (with_reducible refine Below.trans ?_ (Below.mono (by assumption) ?_)) | (with_reducible exact Nat.le_refl _) | (with_reducible assumption) | omega | (simp; omega) | (simp; done)))⟩
theorem key_TwistPoints (q : Int) (l_f : List Int) (b_f : l_f.length ≤ 1048576) : ∃ (r : Int) (o : Bool), (∀ (w : World) (v_f : Value) (_ : Sl w v_f l_f), Calls Try.prog 36 #[.int .i64 q, v_f] w fun e w' => e = .returned (.tuple #[.int .i64 r, .bool o]) ∧ Below w.heap.size w w') ∧
      (∀ (w : World) (v_f : Value) (_ : Sl w v_f l_f), Calls Try.prog 35 #[.int .i64 q, v_f] w fun e w' => e = .returned (.tuple #[.int .i64 r, .bool o]) ∧ Below w.heap.size w w') := by
  cases h : ota q l_f with
  | false => exact ⟨0, false, fun w v hv => spec_TwistPoints_no q v l_f w hv b_f h, fun w v hv => impl_TwistPoints_no q v l_f w hv b_f h⟩
  | true =>
    obtain ⟨m, rfl, hs, ho, hg⟩ := ota_nat h
    exact ⟨_, true, fun w v hv => spec_TwistPoints_yes m v l_f w hs ho hv hg, fun w v hv => impl_TwistPoints_yes m v l_f w hs ho hv hg⟩
end Go.Proofs.Ytimpgbifnijkkab
