/- OrderOfPoly and SignOfPoly, of both, by contracts; the walks of their laws. -/
import Derived.Test.YtommagdddleoiabMC
namespace Go.Proofs.Ytommagdddleoiab
open Go.RowKit Go.Maps
theorem gcd_step (a b : Nat) : Nat.gcd a b = Nat.gcd b (a % b) := by
  rw [Nat.gcd_comm a b, Nat.gcd_rec b a, Nat.gcd_comm]
set_option maxHeartbeats 1000000 in
/-- spec.peGcd. -/
theorem peGcd_any (b a : Nat) (w : World) (ha : a ≤ 70000) (hb : b ≤ 70000) :
    Calls Try.prog 44 #[.int .i64 a, .int .i64 b] w fun e w' => e = .returned (.int .i64 (Nat.gcd a b)) ∧ Below w.heap.size w w' := by
  induction b using Nat.strongRecOn generalizing a w with
  | ind b ih =>
    by_cases h0 : b = 0
    · subst h0
      rw [Nat.gcd_zero_right]
      clear ih
      go_enter Try.func44, Try.ntmps44
      go_wp2
      go_ret
      exact ⟨rfl, Below.refl _ _⟩
    · have hlt : a % b < b := Nat.mod_lt _ (by omega)
      have hrem : (a : Int) % (b : Int) = ((a % b : Nat) : Int) := by omega
      have hne : ((b : Int) == 0) = false := by simpa using h0
      have hpos : (0 : Int) < (b : Int) := by omega
      have HI := Lib.hid (fun w => ih (a % b) hlt b w hb (by omega))
      rw [gcd_step a b]
      clear ih
      generalize a % b = r at *
      generalize Nat.gcd b r = d at *
      go_enter Try.func44, Try.ntmps44
      go_wp2_with fail
      refine (HI.out _).mono ?_
      rintro e w1 ⟨rfl, hb1⟩
      go_wp2
      go_ret
      exact ⟨rfl, hb1⟩
set_option maxHeartbeats 1000000 in
/-- impl.commonDivisor. -/
theorem commonE (a b : Nat) (w : World) (ha : a ≤ 70000) (hb : b ≤ 70000) :
    Calls Try.prog 73 #[.int .i64 a, .int .i64 b] w fun e w' => e = .returned (.int .i64 (Nat.gcd a b)) ∧ Below w.heap.size w w' := by
  generalize hd : Nat.gcd a b = d at *
  have HD := Lib.hid hd; clear hd
  go_enter Try.func73, Try.ntmps73
  go_wp2
  go_loopw [0, 1] (fun va vb wr => ∃ x y : Nat, va = .int .i64 x ∧ vb = .int .i64 y ∧ Nat.gcd x y = d ∧ x ≤ 70000 ∧ y ≤ 70000 ∧ Below w.heap.size w wr) (fun _ vb _ => (intOf vb).toNat)
  case atStart => exact ⟨a, b, rfl, rfl, HD.out, ha, hb, Below.refl _ _⟩
  case round =>
    obtain ⟨x, y, rfl, rfl, hg, hx, hy, hbw⟩ := hrel
    have HB := Lib.hid hbw; clear hbw
    by_cases h0 : y = 0
    · subst h0
      rw [Nat.gcd_zero_right] at hg
      subst hg
      clear HD
      go_wp2
      go_ret
      exact ⟨rfl, HB.out⟩
    · have hlt : x % y < y := Nat.mod_lt _ (by omega)
      have hrem : (x : Int) % (y : Int) = ((x % y : Nat) : Int) := by omega
      have hne : ((y : Int) == 0) = false := by simpa using h0
      have hpos : (0 : Int) < (y : Int) := by omega
      rw [gcd_step x y] at hg
      have HG := Lib.hid hg
      clear hg
      generalize x % y = r at *
      go_wp2
      go_region
      all_goals
        go_wp2
        go_roundw
        case rel => exact ⟨y, r, by first | rfl | go_num, by first | rfl | go_num, HG.out, hy, by omega, by have hb := HB.out; (repeat' (first | (with_reducible assumption) | (with_reducible exact Below.refl _ _) | (with_reducible refine below_drewN ?_ _) | (with_reducible refine Below.drew ?_) | (with_reducible refine Below.alloc ?_ ?_ _) | (with_reducible refine Below.setCell ?_ ?_ _) | (with_reducible refine Below.trans ?_ (Below.mono (by assumption) ?_)) | (with_reducible exact Nat.le_refl _) | (with_reducible assumption) | omega | (simp; omega) | (simp; done)))⟩
        case measure => (simp [intOf]; try omega)
/-- The order, after k cycles. -/
def og (F : Nat → List Int) : Nat → Nat
  | 0 => 1
  | k + 1 => og F k * ((F k).length / Nat.gcd (og F k) (F k).length)
theorem og_pos {F : Nat → List Int} {n : Nat} (hp : ∀ k, k < n → 0 < (F k).length) : ∀ k, k ≤ n → 0 < og F k
  | 0, _ => by simp [og]
  | k + 1, hk => by
    have h1 := og_pos hp k (by omega)
    have h2 := hp k (by omega)
    refine Nat.mul_pos h1 (Nat.div_pos (Nat.le_of_dvd h2 (Nat.gcd_dvd_right _ _)) (Nat.gcd_pos_of_pos_left _ h1))
theorem og_le (F : Nat → List Int) : ∀ k, og F k ≤ 2 ^ ofs F k
  | 0 => by simp [og, ofs]
  | k + 1 => by
    have h1 := og_le F k
    have h2 : (F k).length / Nat.gcd (og F k) (F k).length ≤ 2 ^ (F k).length := Nat.le_trans (Nat.div_le_self _ _) (Nat.le_of_lt Nat.lt_two_pow_self)
    rw [og, ofs, Nat.pow_add]
    exact Nat.mul_le_mul h1 h2
theorem og_other (F : Nat → List Int) (k : Nat) : og F k / Nat.gcd (og F k) (F k).length * (F k).length = og F (k + 1) := by
  rw [og]
  generalize og F k = o
  generalize (F k).length = n
  by_cases hg : Nat.gcd o n = 0
  · have ⟨h1, h2⟩ := Nat.gcd_eq_zero_iff.1 hg
    simp [h1, h2]
  · obtain ⟨c, hc⟩ := Nat.gcd_dvd_left o n
    obtain ⟨d, hd⟩ := Nat.gcd_dvd_right o n
    have hpos : 0 < Nat.gcd o n := Nat.pos_of_ne_zero hg
    generalize Nat.gcd o n = g at *
    subst hc
    subst hd
    rw [Nat.mul_div_cancel_left _ hpos, Nat.mul_div_cancel_left _ hpos, Nat.mul_assoc, Nat.mul_left_comm]
theorem RS.slice {w : World} {B n : Nat} {v : Value} {F : Nat → List Int} {X : Nat → Value} (h : RS w B v n F X) : ∃ a cap, v = .slice a n cap := by
  rcases h.outer.2 with ⟨rfl, rfl⟩ | ⟨g, cap, cur, rfl, _⟩
  · exact ⟨_, _, rfl⟩
  · exact ⟨_, _, rfl⟩
/-- The lengths of the slices, as read. -/
def Lens (w : World) (v : Value) (n : Nat) (F : Nat → List Int) : Prop := (∃ a cap, v = .slice a n cap) ∧ (0 < n → ∃ g cap, v = .slice (some ⟨g, 0, none⟩) n cap ∧ g < w.heap.size ∧ ∀ i, i < n → ∃ a c, w.cell? ⟨g, i, none⟩ = some (.slice a (F i).length c))
theorem RS.lens {w : World} {B n : Nat} {v : Value} {F : Nat → List Int} {X : Nat → Value} (h : RS w B v n F X) : Lens w v n F := by
  refine ⟨h.slice, fun hn => ?_⟩
  obtain ⟨g, cap, rfl, _, hg, hc⟩ := h.form hn
  refine ⟨g, cap, rfl, hg, fun i hi => ?_⟩
  obtain ⟨a, c, e⟩ := (h.inner i hi).sl.form
  exact ⟨a, c, by rw [hc i hi, e]⟩
set_option maxHeartbeats 2000000 in
theorem spec_OrderOfPoly_yes (m : Nat) (v : Value) (l : List Int) (w : World) (hv : Sl w v l) (hpr : prm (m : Int) l = true) :
    Calls Try.prog 24 #[.int .i64 m, v] w fun e w' => e = .returned (.tuple #[.int .i64 (og (FL (CY (tabF (m : Int) (fun i => l.getD i 0) l.length) m)) (CY (tabF (m : Int) (fun i => l.getD i 0) l.length) m).length), .bool true]) ∧ Below w.heap.size w w' := by
  obtain ⟨h, hg, hdis⟩ := prm_nat hpr
  have hq := isSz_le (m : Int) h
  have HTE := fun i (hi : i < m) => tab_el (k := l.length) h (all_el h (good_parts hg).2) i hi
  have HP := Lib.hid (pePermutes_yes m v l w hv hpr)
  have HC := Lib.hid (fun v' w' (hs : Sl w' v' (fl (tabF (m : Int) (fun i => l.getD i 0) l.length) m)) => peCycles_any m v' (tabF (m : Int) (fun i => l.getD i 0) l.length) w' (by omega) (by omega) hs (fun i hi => ⟨(HTE i hi).1, (HTE i hi).2⟩))
  have HNL := CY_len (tabF (m : Int) (fun i => l.getD i 0) l.length) m
  have HTO := CY_tot (t := (tabF (m : Int) (fun i => l.getD i 0) l.length)) HTE
  have HOF := ofs_FL (CY (tabF (m : Int) (fun i => l.getD i 0) l.length) m)
  have HPOS : ∀ k, k < (CY (tabF (m : Int) (fun i => l.getD i 0) l.length) m).length → 0 < (FL (CY (tabF (m : Int) (fun i => l.getD i 0) l.length) m) k).length := fun k hk => by
    unfold FL
    rw [ints_len]
    have hmem : (CY (tabF (m : Int) (fun i => l.getD i 0) l.length) m).getD k [] ∈ CY (tabF (m : Int) (fun i => l.getD i 0) l.length) m := by
      rw [List.getD_eq_getElem?_getD, List.getElem?_eq_getElem hk]
      exact List.getElem_mem hk
    exact cyc_pos (t := nt (tabF (m : Int) (fun i => l.getD i 0) l.length)) (m := m) m (allS m) _ hmem
  clear hg h hpr hv hdis HTE
  generalize CY (tabF (m : Int) (fun i => l.getD i 0) l.length) m = L at *
  generalize (tabF (m : Int) (fun i => l.getD i 0) l.length) = t at *
  have HGP := Lib.hid (og_pos HPOS)
  have HGL : Hid (∀ k, k ≤ L.length → og (FL L) k ≤ 65536) := Lib.hid fun k hk => Nat.le_trans (og_le _ _) (Nat.le_trans (Nat.pow_le_pow_right (by omega) (show ofs (FL L) k ≤ 16 by have := ofs_le (FL L) hk; omega)) (show 2 ^ 16 ≤ 65536 by decide))
  have HLN : Hid (∀ k, k < L.length → 0 < (FL L k).length ∧ (FL L k).length ≤ 16) := Lib.hid fun k hk => ⟨HPOS k hk, by have := ofs_len (FL L) hk; omega⟩
  have HOO := Lib.hid (og_other (FL L))
  have HO0 : Hid (og (FL L) 0 = 1) := Lib.hid rfl
  clear HPOS HTO HOF
  generalize hF : FL L = F at *
  generalize hn : L.length = n at *
  clear hn hF
  go_enter Try.func24, Try.ntmps24
  go_wp2_with fail
  refine HP.out.mono ?_
  rintro e w1 ⟨v1, rfl, hr1, hb1⟩
  have HR1 := Lib.hid hr1; clear hr1
  have HB1 := Lib.hid hb1; clear hb1
  go_wp2_with fail
  refine (HC.out _ _ HR1.out.sl).mono ?_
  rintro e w2 ⟨v2, X2, rfl, hr2, hb2⟩
  obtain ⟨⟨a2, c2, rfl⟩, hop⟩ := hr2.lens
  have HOP := Lib.hid hop
  have HB2 : Hid (Below w.heap.size w w2) := Lib.hid (HB1.out.trans (hb2.mono HB1.out.size))
  clear hr2 hb2 hop
  go_wp2_with fail
  go_loopw [8, 22] (fun vo vi wr => ∃ k : Nat, k ≤ n ∧ vi = .int .i64 k ∧ vo = .int .i64 (og F k) ∧ Below w2.heap.size w2 wr) (fun _ vi _ => n - (intOf vi).toNat)
  case atStart => exact ⟨0, Nat.zero_le _, rfl, by rw [HO0.out]; rfl, Below.refl _ _⟩
  case round =>
    obtain ⟨k, hk, rfl, rfl, hb⟩ := hrel
    by_cases hlt : k < n
    · obtain ⟨g, cap, hv, hgl, hcc⟩ := HOP.out (by omega)
      cases hv
      obtain ⟨a3, c3, hc3⟩ := hcc k hlt
      have hc4 := (hb.cell (p := ⟨g, k, none⟩) hgl).trans hc3
      have HB := Lib.hid hb
      obtain ⟨l1, l2⟩ := HLN.out k hlt
      have o1 := HGP.out k hk
      have o2 := HGL.out k hk
      have o3 := HGL.out (k + 1) (by omega)
      have hoo := HOO.out k
      have hg1 : 0 < Nat.gcd (og F k) (F k).length := Nat.gcd_pos_of_pos_left _ o1
      have hg2 : Nat.gcd (og F k) (F k).length ≤ 16 := Nat.le_trans (Nat.le_of_dvd l1 (Nat.gcd_dvd_right _ _)) l2
      have HGC := Lib.hid (fun w => peGcd_any (F k).length (og F k) w (by omega) (by omega))
      have hq1 : og F k / Nat.gcd (og F k) (F k).length ≤ og F k := Nat.div_le_self _ _
      clear hb hcc hc3
      obtain ⟨o', ho'⟩ : ∃ x, og F (k + 1) = x := ⟨_, rfl⟩
      rw [ho'] at hoo o3
      have HO' := Lib.hid ho'; clear ho'
      generalize og F k = o at *
      generalize (F k).length = ln at *
      generalize Nat.gcd o ln = gd at *
      have hdiv : (o : Int) / (gd : Int) = ((o / gd : Nat) : Int) := rfl
      have hgne : ((gd : Int) == 0) = false := by simp; omega
      generalize hqq : o / gd = qq at *
      have hmul : (qq : Int) * (ln : Int) = (o' : Int) := by rw [← hoo]; rfl
      have HH := Lib.hid hqq
      clear hqq hoo
      go_wp2_with fail
      refine (HGC.out _).mono ?_
      rintro e w5 ⟨rfl, hb5⟩
      have HB5 := Lib.hid (HB.out.trans (hb5.mono HB.out.size))
      clear hb5
      go_wp2
      go_roundw
      case rel => exact ⟨k + 1, by omega, by go_num, by rw [HO'.out], HB5.out⟩
      case measure => simp [intOf]; omega
    · obtain rfl : n = k := by omega
      have HB := Lib.hid hb; clear hb
      go_wp2
      go_ret2
      exact ⟨rfl, HB2.out.trans (HB.out.mono HB2.out.size)⟩
set_option maxHeartbeats 2000000 in
/-- impl.poly.order. -/
theorem ordPE (m g n cap : Nat) (f : Nat → Int) (w : World) (h : isSz (m : Int) = true) (hg : g < w.heap.size) (he : Els w g (m : Int) f n) (hf : ∀ i, El (m : Int) (f i)) (hn : n ≤ 1000) :
    Calls Try.prog 45 #[polyE (m : Int) (.slice (some ⟨g, 0, none⟩) n cap)] w fun e w' => e = .returned (.int .i64 (og (FL (CY (tabF (m : Int) f n) m)) (CY (tabF (m : Int) f n) m).length)) ∧ Below w.heap.size w w' := by
  have hq := isSz_le (m : Int) h
  have HTE := fun i (hi : i < m) => tab_el (k := n) h hf i hi
  have HCE := Lib.hid (fun w' (hb : Below w.heap.size w w') => cyclesE m g n cap f w' h (by have := hb.size; omega) (he.below hb hg) hf hn)
  have HNL := CY_len (tabF (m : Int) f n) m
  have HTO := CY_tot (t := tabF (m : Int) f n) HTE
  have HOF := ofs_FL (CY (tabF (m : Int) f n) m)
  have HPOS : ∀ k, k < (CY (tabF (m : Int) f n) m).length → 0 < (FL (CY (tabF (m : Int) f n) m) k).length := fun k hk => by
    unfold FL
    rw [ints_len]
    have hmem : (CY (tabF (m : Int) f n) m).getD k [] ∈ CY (tabF (m : Int) f n) m := by
      rw [List.getD_eq_getElem?_getD, List.getElem?_eq_getElem hk]
      exact List.getElem_mem hk
    exact cyc_pos (t := nt (tabF (m : Int) f n)) (m := m) m (allS m) _ hmem
  clear he hf h HTE
  generalize CY (tabF (m : Int) f n) m = L at *
  generalize tabF (m : Int) f n = t at *
  have HGP := Lib.hid (og_pos HPOS)
  have HGL : Hid (∀ k, k ≤ L.length → og (FL L) k ≤ 65536) := Lib.hid fun k hk => Nat.le_trans (og_le _ _) (Nat.le_trans (Nat.pow_le_pow_right (by omega) (show ofs (FL L) k ≤ 16 by have := ofs_le (FL L) hk; omega)) (show 2 ^ 16 ≤ 65536 by decide))
  have HLN : Hid (∀ k, k < L.length → 0 < (FL L k).length ∧ (FL L k).length ≤ 16) := Lib.hid fun k hk => ⟨HPOS k hk, by have := ofs_len (FL L) hk; omega⟩
  have HOO : Hid (∀ k, og (FL L) k * ((FL L k).length / Nat.gcd (og (FL L) k) (FL L k).length) = og (FL L) (k + 1)) := Lib.hid fun _ => rfl
  have HO0 : Hid (og (FL L) 0 = 1) := Lib.hid rfl
  clear HPOS HTO HOF
  generalize hF : FL L = F at *
  generalize hN : L.length = N at *
  clear hN hF
  go_enter Try.func45, Try.ntmps45
  go_wp2_with fail
  refine (HCE.out _ (by (repeat' (first | (with_reducible assumption) | (with_reducible exact Below.refl _ _) | (with_reducible refine below_drewN ?_ _) | (with_reducible refine Below.drew ?_) | (with_reducible refine Below.alloc ?_ ?_ _) | (with_reducible refine Below.setCell ?_ ?_ _) | (with_reducible refine Below.trans ?_ (Below.mono (by assumption) ?_)) | (with_reducible exact Nat.le_refl _) | (with_reducible assumption) | omega | (simp; omega) | (simp; done))))).mono ?_
  rintro e w2 ⟨v2, X2, rfl, hr2, hb2⟩
  obtain ⟨⟨a2, c2, rfl⟩, hop⟩ := hr2.lens
  have HOP := Lib.hid hop
  have HB2 : Hid (Below w.heap.size w w2) := Lib.hid (by (repeat' (first | (with_reducible assumption) | (with_reducible exact Below.refl _ _) | (with_reducible refine below_drewN ?_ _) | (with_reducible refine Below.drew ?_) | (with_reducible refine Below.alloc ?_ ?_ _) | (with_reducible refine Below.setCell ?_ ?_ _) | (with_reducible refine Below.trans ?_ (Below.mono (by assumption) ?_)) | (with_reducible exact Nat.le_refl _) | (with_reducible assumption) | omega | (simp; omega) | (simp; done))))
  clear hr2 hb2 hop
  go_wp2_with fail
  go_loopw [3, 9] (fun vo vi wr => ∃ k : Nat, k ≤ N ∧ vi = .int .i64 k ∧ vo = .int .i64 (og F k) ∧ Below w2.heap.size w2 wr) (fun _ vi _ => N - (intOf vi).toNat)
  case atStart => exact ⟨0, Nat.zero_le _, rfl, by rw [HO0.out]; rfl, Below.refl _ _⟩
  case round =>
    obtain ⟨k, hk, rfl, rfl, hb⟩ := hrel
    by_cases hlt : k < N
    · obtain ⟨g, cap, hv, hgl, hcc⟩ := HOP.out (by omega)
      cases hv
      obtain ⟨a3, c3, hc3⟩ := hcc k hlt
      have hc4 := (hb.cell (p := ⟨g, k, none⟩) hgl).trans hc3
      have HB := Lib.hid hb
      obtain ⟨l1, l2⟩ := HLN.out k hlt
      have o1 := HGP.out k hk
      have o2 := HGL.out k hk
      have o3 := HGL.out (k + 1) (by omega)
      have hoo := HOO.out k
      have hg1 : 0 < Nat.gcd (og F k) (F k).length := Nat.gcd_pos_of_pos_left _ o1
      have hg2 : Nat.gcd (og F k) (F k).length ≤ 16 := Nat.le_trans (Nat.le_of_dvd l1 (Nat.gcd_dvd_right _ _)) l2
      have HGC := Lib.hid (fun w => commonE (og F k) (F k).length w (by omega) (by omega))
      have hq1 : (F k).length / Nat.gcd (og F k) (F k).length ≤ (F k).length := Nat.div_le_self _ _
      clear hb hcc hc3
      obtain ⟨o', ho'⟩ : ∃ x, og F (k + 1) = x := ⟨_, rfl⟩
      rw [ho'] at hoo o3
      have HO' := Lib.hid ho'; clear ho'
      generalize og F k = o at *
      generalize (F k).length = ln at *
      generalize Nat.gcd o ln = gd at *
      have hdiv : (ln : Int) / (gd : Int) = ((ln / gd : Nat) : Int) := rfl
      have hgne : ((gd : Int) == 0) = false := by simp; omega
      generalize hqq : ln / gd = qq at *
      have hmul : (o : Int) * (qq : Int) = (o' : Int) := by rw [← hoo]; rfl
      have HH := Lib.hid hqq
      clear hqq hoo
      go_wp2_with fail
      refine (HGC.out _).mono ?_
      rintro e w5 ⟨rfl, hb5⟩
      have HB5 := Lib.hid (HB.out.trans (hb5.mono HB.out.size))
      clear hb5
      go_wp2
      go_roundw
      case rel => exact ⟨k + 1, by omega, by go_num, by rw [HO'.out], HB5.out⟩
      case measure => simp [intOf]; omega
    · obtain rfl : N = k := by omega
      have HB := Lib.hid hb; clear hb
      go_wp2
      go_ret
      exact ⟨rfl, HB2.out.trans (HB.out.mono HB2.out.size)⟩
/-- 1 or -1. -/
def sg (m n : Nat) : Int := if (m - n) % 2 = 1 then -1 else 1
set_option maxHeartbeats 2000000 in
theorem spec_SignOfPoly_yes (m : Nat) (v : Value) (l : List Int) (w : World) (hv : Sl w v l) (hpr : prm (m : Int) l = true) :
    Calls Try.prog 26 #[.int .i64 m, v] w fun e w' => e = .returned (.tuple #[.int .i64 (sg m (CY (tabF (m : Int) (fun i => l.getD i 0) l.length) m).length), .bool true]) ∧ Below w.heap.size w w' := by
  obtain ⟨h, hg, hdis⟩ := prm_nat hpr
  have hq := isSz_le (m : Int) h
  have HTE := fun i (hi : i < m) => tab_el (k := l.length) h (all_el h (good_parts hg).2) i hi
  have HP := Lib.hid (pePermutes_yes m v l w hv hpr)
  have HC := Lib.hid (fun v' w' (hs : Sl w' v' (fl (tabF (m : Int) (fun i => l.getD i 0) l.length) m)) => peCycles_any m v' (tabF (m : Int) (fun i => l.getD i 0) l.length) w' (by omega) (by omega) hs (fun i hi => ⟨(HTE i hi).1, (HTE i hi).2⟩))
  have HNL := CY_len (tabF (m : Int) (fun i => l.getD i 0) l.length) m
  clear hg h hpr hv hdis HTE
  generalize CY (tabF (m : Int) (fun i => l.getD i 0) l.length) m = L at *
  generalize (tabF (m : Int) (fun i => l.getD i 0) l.length) = t at *
  generalize hF : FL L = F at *
  generalize hn : L.length = n at *
  clear hn hF
  have hsub : (m : Int) - (n : Int) = ((m - n : Nat) : Int) := by omega
  have hdb : m - n ≤ 16 := by omega
  unfold sg
  generalize hdd : m - n = d at *
  clear hdd
  by_cases hp : d % 2 = 1
  · have h1 : ((d : Int) % 2) = 1 := by omega
    have h2 : ((d : Int).tmod 2) = 1 := by rw [Int.tmod_eq_emod_of_nonneg (by omega)]; exact h1
    rw [if_pos hp]
    go_enter Try.func26, Try.ntmps26
    go_wp2_with fail
    refine HP.out.mono ?_
    rintro e w1 ⟨v1, rfl, hr1, hb1⟩
    have HR1 := Lib.hid hr1; clear hr1
    have HB1 := Lib.hid hb1; clear hb1
    go_wp2_with fail
    refine (HC.out _ _ HR1.out.sl).mono ?_
    rintro e w2 ⟨v2, X2, rfl, hr2, hb2⟩
    obtain ⟨a2, c2, rfl⟩ := hr2.slice
    have HB2 : Hid (Below w.heap.size w w2) := Lib.hid (HB1.out.trans (hb2.mono HB1.out.size))
    clear hr2 hb2
    go_wp2
    go_ret2
    exact ⟨rfl, HB2.out⟩
  · have h1 : ((d : Int) % 2) = 0 := by omega
    have h2 : ((d : Int).tmod 2) = 0 := by rw [Int.tmod_eq_emod_of_nonneg (by omega)]; exact h1
    rw [if_neg hp]
    go_enter Try.func26, Try.ntmps26
    go_wp2_with fail
    refine HP.out.mono ?_
    rintro e w1 ⟨v1, rfl, hr1, hb1⟩
    have HR1 := Lib.hid hr1; clear hr1
    have HB1 := Lib.hid hb1; clear hb1
    go_wp2_with fail
    refine (HC.out _ _ HR1.out.sl).mono ?_
    rintro e w2 ⟨v2, X2, rfl, hr2, hb2⟩
    obtain ⟨a2, c2, rfl⟩ := hr2.slice
    have HB2 : Hid (Below w.heap.size w w2) := Lib.hid (HB1.out.trans (hb2.mono HB1.out.size))
    clear hr2 hb2
    go_wp2
    go_ret2
    exact ⟨rfl, HB2.out⟩
set_option maxHeartbeats 2000000 in
/-- impl.poly.sign. -/
theorem sgnPE (m g n cap : Nat) (f : Nat → Int) (w : World) (h : isSz (m : Int) = true) (hg : g < w.heap.size) (he : Els w g (m : Int) f n) (hf : ∀ i, El (m : Int) (f i)) (hn : n ≤ 1000) :
    Calls Try.prog 46 #[polyE (m : Int) (.slice (some ⟨g, 0, none⟩) n cap)] w fun e w' => e = .returned (.int .i64 (sg m (CY (tabF (m : Int) f n) m).length)) ∧ Below w.heap.size w w' := by
  have hq := isSz_le (m : Int) h
  have HNL := CY_len (tabF (m : Int) f n) m
  have HCE := Lib.hid (fun w' (hb : Below w.heap.size w w') => cyclesE m g n cap f w' h (by have := hb.size; omega) (he.below hb hg) hf hn)
  clear he hf h
  generalize CY (tabF (m : Int) f n) m = L at *
  generalize hF : FL L = F at *
  generalize hN : L.length = N at *
  clear hN hF
  have hsub : (m : Int) - (N : Int) = ((m - N : Nat) : Int) := by omega
  have hdb : m - N ≤ 16 := by omega
  unfold sg
  generalize hdd : m - N = d at *
  clear hdd
  have hwr : IntKind.i64.wrap (d : Int) = (d : Int) := by rw [IntKind.wrap_i64]; omega
  by_cases hp : d % 2 = 1
  · have h1 : ((d : Int) % 2) = 1 := by omega
    have h2 : ((d : Int).tmod 2) = 1 := by rw [Int.tmod_eq_emod_of_nonneg (by omega)]; exact h1
    rw [if_pos hp]
    go_enter Try.func46, Try.ntmps46
    go_wp2_with fail
    go_region_with (go_at_call 43; refine (HCE.out _ (by (repeat' (first | (with_reducible assumption) | (with_reducible exact Below.refl _ _) | (with_reducible refine below_drewN ?_ _) | (with_reducible refine Below.drew ?_) | (with_reducible refine Below.alloc ?_ ?_ _) | (with_reducible refine Below.setCell ?_ ?_ _) | (with_reducible refine Below.trans ?_ (Below.mono (by assumption) ?_)) | (with_reducible exact Nat.le_refl _) | (with_reducible assumption) | omega | (simp; omega) | (simp; done))))).mono ?_; rintro e w2 ⟨v2, X2, rfl, hr2, hb2⟩; obtain ⟨a2, c2, rfl⟩ := hr2.slice; clear hr2; obtain ⟨hc2, hf2⟩ := bcell hb2; (try simp only [World.size_drew] at hc2 hf2); have hz2 := hb2.size; (try simp at hz2); have HB2 := Lib.hid hb2; clear hb2; have l2 : w.heap.size < w2.heap.size := (by omega))
    all_goals
      go_wp2
      go_ret
      exact ⟨rfl, by have hb2 := HB2.out; (repeat' (first | (with_reducible assumption) | (with_reducible exact Below.refl _ _) | (with_reducible refine below_drewN ?_ _) | (with_reducible refine Below.drew ?_) | (with_reducible refine Below.alloc ?_ ?_ _) | (with_reducible refine Below.setCell ?_ ?_ _) | (with_reducible refine Below.trans ?_ (Below.mono (by assumption) ?_)) | (with_reducible exact Nat.le_refl _) | (with_reducible assumption) | omega | (simp; omega) | (simp; done)))⟩
  · have h1 : ((d : Int) % 2) = 0 := by omega
    have h2 : ((d : Int).tmod 2) = 0 := by rw [Int.tmod_eq_emod_of_nonneg (by omega)]; exact h1
    rw [if_neg hp]
    go_enter Try.func46, Try.ntmps46
    go_wp2_with fail
    go_region_with (go_at_call 43; refine (HCE.out _ (by (repeat' (first | (with_reducible assumption) | (with_reducible exact Below.refl _ _) | (with_reducible refine below_drewN ?_ _) | (with_reducible refine Below.drew ?_) | (with_reducible refine Below.alloc ?_ ?_ _) | (with_reducible refine Below.setCell ?_ ?_ _) | (with_reducible refine Below.trans ?_ (Below.mono (by assumption) ?_)) | (with_reducible exact Nat.le_refl _) | (with_reducible assumption) | omega | (simp; omega) | (simp; done))))).mono ?_; rintro e w2 ⟨v2, X2, rfl, hr2, hb2⟩; obtain ⟨a2, c2, rfl⟩ := hr2.slice; clear hr2; obtain ⟨hc2, hf2⟩ := bcell hb2; (try simp only [World.size_drew] at hc2 hf2); have hz2 := hb2.size; (try simp at hz2); have HB2 := Lib.hid hb2; clear hb2; have l2 : w.heap.size < w2.heap.size := (by omega))
    all_goals
      go_wp2
      go_ret
      exact ⟨rfl, by have hb2 := HB2.out; (repeat' (first | (with_reducible assumption) | (with_reducible exact Below.refl _ _) | (with_reducible refine below_drewN ?_ _) | (with_reducible refine Below.drew ?_) | (with_reducible refine Below.alloc ?_ ?_ _) | (with_reducible refine Below.setCell ?_ ?_ _) | (with_reducible refine Below.trans ?_ (Below.mono (by assumption) ?_)) | (with_reducible exact Nat.le_refl _) | (with_reducible assumption) | omega | (simp; omega) | (simp; done)))⟩
set_option maxHeartbeats 2000000 in
theorem impl_OrderOfPoly_yes (m : Nat) (v : Value) (l : List Int) (w : World) (hv : Sl w v l) (hpr : prm (m : Int) l = true) :
    Calls Try.prog 25 #[.int .i64 m, v] w fun e w' => e = .returned (.tuple #[.int .i64 (og (FL (CY (tabF (m : Int) (fun i => l.getD i 0) l.length) m)) (CY (tabF (m : Int) (fun i => l.getD i 0) l.length) m).length), .bool true]) ∧ Below w.heap.size w w' := by
  obtain ⟨h, hg, hdis⟩ := prm_nat hpr
  have hq := isSz_le (m : Int) h
  have hlen := (good_parts hg).1
  have hf := all_el h (good_parts hg).2
  have HP := Lib.hid (vpm_yes m v l w h hv hg hdis)
  have HCE := Lib.hid (fun g w' (hg : g < w'.heap.size) (he : Els w' g (m : Int) (fun i => l.getD i 0) l.length) => ordPE m g l.length l.length (fun i => l.getD i 0) w' h hg he hf (by omega))
  clear hv hpr h hg hdis hf
  generalize og (FL (CY (tabF (m : Int) (fun i => l.getD i 0) l.length) m)) (CY (tabF (m : Int) (fun i => l.getD i 0) l.length) m).length = r at *
  generalize (fun i => l.getD i 0) = f at *
  generalize l.length = n at *
  go_enter Try.func25, Try.ntmps25
  go_wp2_with fail
  refine HP.out.mono ?_
  rintro e w1 ⟨g1, rfl, hgg1, hgl1, he1, hb1⟩
  have HE1 := Lib.hid he1; clear he1
  have hz_hb1 := hb1.size; (try simp at hz_hb1)
  have HB1 := Lib.hid hb1; clear hb1
  go_wp2_with fail
  refine (HCE.out g1 _ (by simp; omega) (HE1.out.below (B := w1.heap.size) (by (repeat' (first | (with_reducible assumption) | (with_reducible exact Below.refl _ _) | (with_reducible refine below_drewN ?_ _) | (with_reducible refine Below.drew ?_) | (with_reducible refine Below.alloc ?_ ?_ _) | (with_reducible refine Below.setCell ?_ ?_ _) | (with_reducible refine Below.trans ?_ (Below.mono (by assumption) ?_)) | (with_reducible exact Nat.le_refl _) | (with_reducible assumption) | omega | (simp; omega) | (simp; done)))) hgl1)).mono ?_
  rintro e w2 ⟨rfl, hb2⟩
  have HB2 := Lib.hid hb2; clear hb2
  go_wp2
  go_ret2
  have hb1 := HB1.out
  have hb2 := HB2.out
  exact ⟨rfl, by (repeat' (first | (with_reducible assumption) | (with_reducible exact Below.refl _ _) | (with_reducible refine below_drewN ?_ _) | (with_reducible refine Below.drew ?_) | (with_reducible refine Below.alloc ?_ ?_ _) | (with_reducible refine Below.setCell ?_ ?_ _) | (with_reducible refine Below.trans ?_ (Below.mono (by assumption) ?_)) | (with_reducible exact Nat.le_refl _) | (with_reducible assumption) | omega | (simp; omega) | (simp; done)))⟩
set_option maxHeartbeats 2000000 in
theorem impl_SignOfPoly_yes (m : Nat) (v : Value) (l : List Int) (w : World) (hv : Sl w v l) (hpr : prm (m : Int) l = true) :
    Calls Try.prog 27 #[.int .i64 m, v] w fun e w' => e = .returned (.tuple #[.int .i64 (sg m (CY (tabF (m : Int) (fun i => l.getD i 0) l.length) m).length), .bool true]) ∧ Below w.heap.size w w' := by
  obtain ⟨h, hg, hdis⟩ := prm_nat hpr
  have hq := isSz_le (m : Int) h
  have hlen := (good_parts hg).1
  have hf := all_el h (good_parts hg).2
  have HP := Lib.hid (vpm_yes m v l w h hv hg hdis)
  have HCE := Lib.hid (fun g w' (hg : g < w'.heap.size) (he : Els w' g (m : Int) (fun i => l.getD i 0) l.length) => sgnPE m g l.length l.length (fun i => l.getD i 0) w' h hg he hf (by omega))
  clear hv hpr h hg hdis hf
  generalize sg m (CY (tabF (m : Int) (fun i => l.getD i 0) l.length) m).length = r at *
  generalize (fun i => l.getD i 0) = f at *
  generalize l.length = n at *
  go_enter Try.func27, Try.ntmps27
  go_wp2_with fail
  refine HP.out.mono ?_
  rintro e w1 ⟨g1, rfl, hgg1, hgl1, he1, hb1⟩
  have HE1 := Lib.hid he1; clear he1
  have hz_hb1 := hb1.size; (try simp at hz_hb1)
  have HB1 := Lib.hid hb1; clear hb1
  go_wp2_with fail
  refine (HCE.out g1 _ (by simp; omega) (HE1.out.below (B := w1.heap.size) (by (repeat' (first | (with_reducible assumption) | (with_reducible exact Below.refl _ _) | (with_reducible refine below_drewN ?_ _) | (with_reducible refine Below.drew ?_) | (with_reducible refine Below.alloc ?_ ?_ _) | (with_reducible refine Below.setCell ?_ ?_ _) | (with_reducible refine Below.trans ?_ (Below.mono (by assumption) ?_)) | (with_reducible exact Nat.le_refl _) | (with_reducible assumption) | omega | (simp; omega) | (simp; done)))) hgl1)).mono ?_
  rintro e w2 ⟨rfl, hb2⟩
  have HB2 := Lib.hid hb2; clear hb2
  go_wp2
  go_ret2
  have hb1 := HB1.out
  have hb2 := HB2.out
  exact ⟨rfl, by (repeat' (first | (with_reducible assumption) | (with_reducible exact Below.refl _ _) | (with_reducible refine below_drewN ?_ _) | (with_reducible refine Below.drew ?_) | (with_reducible refine Below.alloc ?_ ?_ _) | (with_reducible refine Below.setCell ?_ ?_ _) | (with_reducible refine Below.trans ?_ (Below.mono (by assumption) ?_)) | (with_reducible exact Nat.le_refl _) | (with_reducible assumption) | omega | (simp; omega) | (simp; done)))⟩

theorem spec_OrderOfPoly_no (q : Int) (v : Value) (l : List Int) (w : World) (hv : Sl w v l) (hl : l.length ≤ 1048576) (hg : prm q l = false) :
    Calls Try.prog 24 #[.int .i64 q, v] w fun e w' => e = .returned (.tuple #[.int .i64 0, .bool false]) ∧ Below w.heap.size w w' := by
  have HP := Lib.hid (pePermutes_no q v l w hv hl hg)
  clear hg hv hl
  go_enter Try.func24, Try.ntmps24
  go_wp2_with fail
  refine HP.out.mono ?_
  rintro e w1 ⟨v1, rfl, hb1⟩
  go_wp2
  go_ret2
  exact ⟨rfl, hb1⟩
theorem impl_OrderOfPoly_no (q : Int) (v : Value) (l : List Int) (w : World) (hv : Sl w v l) (hl : l.length ≤ 1048576) (hg : prm q l = false) :
    Calls Try.prog 25 #[.int .i64 q, v] w fun e w' => e = .returned (.tuple #[.int .i64 0, .bool false]) ∧ Below w.heap.size w w' := by
  have HP := Lib.hid (vpm_no q v l w hv hl hg)
  clear hg hv hl
  go_enter Try.func25, Try.ntmps25
  go_wp2_with fail
  refine HP.out.mono ?_
  rintro e w1 ⟨rfl, hb1⟩
  have hz_hb1 := hb1.size; (try simp at hz_hb1)
  have HB1 := Lib.hid hb1; clear hb1
  go_wp2_with fail
  go_ret2
  have hb1 := HB1.out
  exact ⟨rfl, by (repeat' (first | (with_reducible assumption) | (with_reducible exact Below.refl _ _) | (with_reducible refine below_drewN ?_ _) | (with_reducible refine Below.drew ?_) | (with_reducible refine Below.alloc ?_ ?_ _) | (with_reducible refine Below.setCell ?_ ?_ _) | (with_reducible refine Below.trans ?_ (Below.mono (by assumption) ?_)) | (with_reducible exact Nat.le_refl _) | (with_reducible assumption) | omega | (simp; omega) | (simp; done)))⟩

theorem spec_SignOfPoly_no (q : Int) (v : Value) (l : List Int) (w : World) (hv : Sl w v l) (hl : l.length ≤ 1048576) (hg : prm q l = false) :
    Calls Try.prog 26 #[.int .i64 q, v] w fun e w' => e = .returned (.tuple #[.int .i64 0, .bool false]) ∧ Below w.heap.size w w' := by
  have HP := Lib.hid (pePermutes_no q v l w hv hl hg)
  clear hg hv hl
  go_enter Try.func26, Try.ntmps26
  go_wp2_with fail
  refine HP.out.mono ?_
  rintro e w1 ⟨v1, rfl, hb1⟩
  go_wp2
  go_ret2
  exact ⟨rfl, hb1⟩
theorem impl_SignOfPoly_no (q : Int) (v : Value) (l : List Int) (w : World) (hv : Sl w v l) (hl : l.length ≤ 1048576) (hg : prm q l = false) :
    Calls Try.prog 27 #[.int .i64 q, v] w fun e w' => e = .returned (.tuple #[.int .i64 0, .bool false]) ∧ Below w.heap.size w w' := by
  have HP := Lib.hid (vpm_no q v l w hv hl hg)
  clear hg hv hl
  go_enter Try.func27, Try.ntmps27
  go_wp2_with fail
  refine HP.out.mono ?_
  rintro e w1 ⟨rfl, hb1⟩
  have hz_hb1 := hb1.size; (try simp at hz_hb1)
  have HB1 := Lib.hid hb1; clear hb1
  go_wp2_with fail
  go_ret2
  have hb1 := HB1.out
  exact ⟨rfl, by (repeat' (first | (with_reducible assumption) | (with_reducible exact Below.refl _ _) | (with_reducible refine below_drewN ?_ _) | (with_reducible refine Below.drew ?_) | (with_reducible refine Below.alloc ?_ ?_ _) | (with_reducible refine Below.setCell ?_ ?_ _) | (with_reducible refine Below.trans ?_ (Below.mono (by assumption) ?_)) | (with_reducible exact Nat.le_refl _) | (with_reducible assumption) | omega | (simp; omega) | (simp; done)))⟩
theorem key_OrderOfPoly (q : Int) (l_f : List Int) (b_f : l_f.length ≤ 1048576) : ∃ (r : Int) (o : Bool), (∀ (w : World) (v_f : Value) (_ : Sl w v_f l_f), Calls Try.prog 24 #[.int .i64 q, v_f] w fun e w' => e = .returned (.tuple #[.int .i64 r, .bool o]) ∧ Below w.heap.size w w') ∧
      (∀ (w : World) (v_f : Value) (_ : Sl w v_f l_f), Calls Try.prog 25 #[.int .i64 q, v_f] w fun e w' => e = .returned (.tuple #[.int .i64 r, .bool o]) ∧ Below w.heap.size w w') := by
  cases h : prm q l_f with
  | false => exact ⟨0, false, fun w v hv => spec_OrderOfPoly_no q v l_f w hv b_f h, fun w v hv => impl_OrderOfPoly_no q v l_f w hv b_f h⟩
  | true =>
    obtain ⟨m, rfl⟩ := prm_size h
    exact ⟨(og (FL (CY (tabF (m : Int) (fun i => l_f.getD i 0) l_f.length) m)) (CY (tabF (m : Int) (fun i => l_f.getD i 0) l_f.length) m).length : Nat), true, fun w v hv => spec_OrderOfPoly_yes m v l_f w hv h, fun w v hv => impl_OrderOfPoly_yes m v l_f w hv h⟩
set_option maxRecDepth 100000 in
set_option maxHeartbeats 4000000 in
/-- laws.FnExactOrderOfPoly. -/
theorem walk_FnExactOrderOfPoly (q : Int) (a_f : Option Addr) (n_f c_f : Nat) (z_f : List Int) (w : World) (_h_q : (Lit.int .i64 q).wf = true) (h_f : IsRow .i64 w a_f n_f c_f z_f) :
    Calls Try.prog 6 #[.int .i64 q, .slice a_f n_f c_f] w fun e w' => e = .returned (.bool true) ∧ Below w.heap.size w w' := by
  clear _h_q
  obtain ⟨hs_f, hl_f, _⟩ := h_f.sl
  generalize z_f.take n_f = l_f at *
  clear h_f
  subst hl_f
  by_cases b_f : l_f.length ≤ 1048576
  rotate_left
  · have hn_f : (1048576 : Int) < (l_f.length : Int) := by omega
    go_enter Try.func6, Try.ntmps6
    go_wp2
    go_ret
    exact ⟨rfl, Below.refl _ _⟩
  have hn_f : ¬ (1048576 : Int) < (l_f.length : Int) := by omega
  obtain ⟨r, o, k1, k2⟩ := key_OrderOfPoly q l_f b_f
  have K1 := Lib.hid k1; clear k1
  have K2 := Lib.hid k2; clear k2
  have HS_f := Lib.hid hs_f; clear hs_f
  have HB0 : Hid (Below w.heap.size w w) := Lib.hid (Below.refl _ _)
  go_enter Try.func6, Try.ntmps6
  go_wp2_with fail
  refine (toIntS_any _ l_f _ (HS_f.out.below HB0.out (Nat.le_refl _)) b_f).mono ?_
  rintro e w1 ⟨v_s_f, rfl, hrw1, hbw1⟩
  have hzw1 : w.heap.size ≤ w1.heap.size := hbw1.size
  have HBw1 : Hid (Below w.heap.size w w1) := Lib.hid (HB0.out.trans (hbw1.mono HB0.out.size))
  have hww1 := HBw1.out.size
  clear hbw1 HB0
  have R_s_f_w1 := Lib.hid hrw1; clear hrw1
  have lt_s_f : Hid (∀ g, v_s_f.ownBlock = some g → w.heap.size ≤ g ∧ g < w1.heap.size) := Lib.hid R_s_f_w1.out.lt
  go_wp2_with fail
  refine (K1.out _ v_s_f R_s_f_w1.out.sl).mono ?_
  rintro e w2 ⟨rfl, hbw2⟩
  have hzw2 : w1.heap.size ≤ w2.heap.size := hbw2.size
  have R_s_f_w2 := Lib.hid (R_s_f_w1.out.below hbw2)
  clear R_s_f_w1
  have HBw2 : Hid (Below w.heap.size w w2) := Lib.hid (HBw1.out.trans (hbw2.mono HBw1.out.size))
  have hww2 := HBw2.out.size
  clear hbw2 HBw1
  clear R_s_f_w2 lt_s_f
  go_wp2_with fail
  refine (toIntS_any _ l_f _ (HS_f.out.below HBw2.out (Nat.le_refl _)) b_f).mono ?_
  rintro e w3 ⟨v_x_f, rfl, hrw3, hbw3⟩
  have hzw3 : w2.heap.size ≤ w3.heap.size := hbw3.size
  have HBw3 : Hid (Below w.heap.size w w3) := Lib.hid (HBw2.out.trans (hbw3.mono HBw2.out.size))
  have hww3 := HBw3.out.size
  clear hbw3 HBw2
  have R_x_f_w3 := Lib.hid hrw3; clear hrw3
  have lt_x_f : Hid (∀ g, v_x_f.ownBlock = some g → w2.heap.size ≤ g ∧ g < w3.heap.size) := Lib.hid R_x_f_w3.out.lt
  go_wp2_with fail
  refine (K2.out _ v_x_f R_x_f_w3.out.sl).mono ?_
  rintro e w4 ⟨rfl, hbw4⟩
  have hzw4 : w3.heap.size ≤ w4.heap.size := hbw4.size
  have R_x_f_w4 := Lib.hid (R_x_f_w3.out.below hbw4)
  clear R_x_f_w3
  have HBw4 : Hid (Below w.heap.size w w4) := Lib.hid (HBw3.out.trans (hbw4.mono HBw3.out.size))
  have hww4 := HBw4.out.size
  clear hbw4 HBw3
  go_wp2_with fail
  refine (toIntS_any _ l_f _ (HS_f.out.below HBw4.out (Nat.le_refl _)) b_f).mono ?_
  rintro e w5 ⟨v_y_f, rfl, hrw5, hbw5⟩
  have hzw5 : w4.heap.size ≤ w5.heap.size := hbw5.size
  have R_x_f_w5 := Lib.hid (R_x_f_w4.out.below hbw5)
  clear R_x_f_w4
  have HBw5 : Hid (Below w.heap.size w w5) := Lib.hid (HBw4.out.trans (hbw5.mono HBw4.out.size))
  have hww5 := HBw5.out.size
  clear hbw5 HBw4
  have R_y_f_w5 := Lib.hid hrw5; clear hrw5
  have lt_y_f : Hid (∀ g, v_y_f.ownBlock = some g → w4.heap.size ≤ g ∧ g < w5.heap.size) := Lib.hid R_y_f_w5.out.lt
  go_wp2_with fail
  refine (eq_same v_x_f v_y_f l_f _ _ _ R_x_f_w5.out R_y_f_w5.out (by omega)).mono ?_
  rintro e w6 ⟨rfl, hbw6⟩
  have hzw6 : w5.heap.size ≤ w6.heap.size := hbw6.size
  have R_x_f_w6 := Lib.hid (R_x_f_w5.out.below hbw6)
  clear R_x_f_w5
  have R_y_f_w6 := Lib.hid (R_y_f_w5.out.below hbw6)
  clear R_y_f_w5
  have HBw6 : Hid (Below w.heap.size w w6) := Lib.hid (HBw5.out.trans (hbw6.mono HBw5.out.size))
  have hww6 := HBw6.out.size
  clear hbw6 HBw5
  clear R_y_f_w6 lt_y_f
  go_wp2
  go_ret
  exact ⟨rfl, HBw6.out⟩
theorem key_SignOfPoly (q : Int) (l_f : List Int) (b_f : l_f.length ≤ 1048576) : ∃ (r : Int) (o : Bool), (∀ (w : World) (v_f : Value) (_ : Sl w v_f l_f), Calls Try.prog 26 #[.int .i64 q, v_f] w fun e w' => e = .returned (.tuple #[.int .i64 r, .bool o]) ∧ Below w.heap.size w w') ∧
      (∀ (w : World) (v_f : Value) (_ : Sl w v_f l_f), Calls Try.prog 27 #[.int .i64 q, v_f] w fun e w' => e = .returned (.tuple #[.int .i64 r, .bool o]) ∧ Below w.heap.size w w') := by
  cases h : prm q l_f with
  | false => exact ⟨0, false, fun w v hv => spec_SignOfPoly_no q v l_f w hv b_f h, fun w v hv => impl_SignOfPoly_no q v l_f w hv b_f h⟩
  | true =>
    obtain ⟨m, rfl⟩ := prm_size h
    exact ⟨sg m (CY (tabF (m : Int) (fun i => l_f.getD i 0) l_f.length) m).length, true, fun w v hv => spec_SignOfPoly_yes m v l_f w hv h, fun w v hv => impl_SignOfPoly_yes m v l_f w hv h⟩
set_option maxRecDepth 100000 in
set_option maxHeartbeats 4000000 in
/-- laws.FnExactSignOfPoly. -/
theorem walk_FnExactSignOfPoly (q : Int) (a_f : Option Addr) (n_f c_f : Nat) (z_f : List Int) (w : World) (_h_q : (Lit.int .i64 q).wf = true) (h_f : IsRow .i64 w a_f n_f c_f z_f) :
    Calls Try.prog 7 #[.int .i64 q, .slice a_f n_f c_f] w fun e w' => e = .returned (.bool true) ∧ Below w.heap.size w w' := by
  clear _h_q
  obtain ⟨hs_f, hl_f, _⟩ := h_f.sl
  generalize z_f.take n_f = l_f at *
  clear h_f
  subst hl_f
  by_cases b_f : l_f.length ≤ 1048576
  rotate_left
  · have hn_f : (1048576 : Int) < (l_f.length : Int) := by omega
    go_enter Try.func7, Try.ntmps7
    go_wp2
    go_ret
    exact ⟨rfl, Below.refl _ _⟩
  have hn_f : ¬ (1048576 : Int) < (l_f.length : Int) := by omega
  obtain ⟨r, o, k1, k2⟩ := key_SignOfPoly q l_f b_f
  have K1 := Lib.hid k1; clear k1
  have K2 := Lib.hid k2; clear k2
  have HS_f := Lib.hid hs_f; clear hs_f
  have HB0 : Hid (Below w.heap.size w w) := Lib.hid (Below.refl _ _)
  go_enter Try.func7, Try.ntmps7
  go_wp2_with fail
  refine (toIntS_any _ l_f _ (HS_f.out.below HB0.out (Nat.le_refl _)) b_f).mono ?_
  rintro e w1 ⟨v_s_f, rfl, hrw1, hbw1⟩
  have hzw1 : w.heap.size ≤ w1.heap.size := hbw1.size
  have HBw1 : Hid (Below w.heap.size w w1) := Lib.hid (HB0.out.trans (hbw1.mono HB0.out.size))
  have hww1 := HBw1.out.size
  clear hbw1 HB0
  have R_s_f_w1 := Lib.hid hrw1; clear hrw1
  have lt_s_f : Hid (∀ g, v_s_f.ownBlock = some g → w.heap.size ≤ g ∧ g < w1.heap.size) := Lib.hid R_s_f_w1.out.lt
  go_wp2_with fail
  refine (K1.out _ v_s_f R_s_f_w1.out.sl).mono ?_
  rintro e w2 ⟨rfl, hbw2⟩
  have hzw2 : w1.heap.size ≤ w2.heap.size := hbw2.size
  have R_s_f_w2 := Lib.hid (R_s_f_w1.out.below hbw2)
  clear R_s_f_w1
  have HBw2 : Hid (Below w.heap.size w w2) := Lib.hid (HBw1.out.trans (hbw2.mono HBw1.out.size))
  have hww2 := HBw2.out.size
  clear hbw2 HBw1
  clear R_s_f_w2 lt_s_f
  go_wp2_with fail
  refine (toIntS_any _ l_f _ (HS_f.out.below HBw2.out (Nat.le_refl _)) b_f).mono ?_
  rintro e w3 ⟨v_x_f, rfl, hrw3, hbw3⟩
  have hzw3 : w2.heap.size ≤ w3.heap.size := hbw3.size
  have HBw3 : Hid (Below w.heap.size w w3) := Lib.hid (HBw2.out.trans (hbw3.mono HBw2.out.size))
  have hww3 := HBw3.out.size
  clear hbw3 HBw2
  have R_x_f_w3 := Lib.hid hrw3; clear hrw3
  have lt_x_f : Hid (∀ g, v_x_f.ownBlock = some g → w2.heap.size ≤ g ∧ g < w3.heap.size) := Lib.hid R_x_f_w3.out.lt
  go_wp2_with fail
  refine (K2.out _ v_x_f R_x_f_w3.out.sl).mono ?_
  rintro e w4 ⟨rfl, hbw4⟩
  have hzw4 : w3.heap.size ≤ w4.heap.size := hbw4.size
  have R_x_f_w4 := Lib.hid (R_x_f_w3.out.below hbw4)
  clear R_x_f_w3
  have HBw4 : Hid (Below w.heap.size w w4) := Lib.hid (HBw3.out.trans (hbw4.mono HBw3.out.size))
  have hww4 := HBw4.out.size
  clear hbw4 HBw3
  go_wp2_with fail
  refine (toIntS_any _ l_f _ (HS_f.out.below HBw4.out (Nat.le_refl _)) b_f).mono ?_
  rintro e w5 ⟨v_y_f, rfl, hrw5, hbw5⟩
  have hzw5 : w4.heap.size ≤ w5.heap.size := hbw5.size
  have R_x_f_w5 := Lib.hid (R_x_f_w4.out.below hbw5)
  clear R_x_f_w4
  have HBw5 : Hid (Below w.heap.size w w5) := Lib.hid (HBw4.out.trans (hbw5.mono HBw4.out.size))
  have hww5 := HBw5.out.size
  clear hbw5 HBw4
  have R_y_f_w5 := Lib.hid hrw5; clear hrw5
  have lt_y_f : Hid (∀ g, v_y_f.ownBlock = some g → w4.heap.size ≤ g ∧ g < w5.heap.size) := Lib.hid R_y_f_w5.out.lt
  go_wp2_with fail
  refine (eq_same v_x_f v_y_f l_f _ _ _ R_x_f_w5.out R_y_f_w5.out (by omega)).mono ?_
  rintro e w6 ⟨rfl, hbw6⟩
  have hzw6 : w5.heap.size ≤ w6.heap.size := hbw6.size
  have R_x_f_w6 := Lib.hid (R_x_f_w5.out.below hbw6)
  clear R_x_f_w5
  have R_y_f_w6 := Lib.hid (R_y_f_w5.out.below hbw6)
  clear R_y_f_w5
  have HBw6 : Hid (Below w.heap.size w w6) := Lib.hid (HBw5.out.trans (hbw6.mono HBw5.out.size))
  have hww6 := HBw6.out.size
  clear hbw6 HBw5
  clear R_y_f_w6 lt_y_f
  go_wp2
  go_ret
  exact ⟨rfl, HBw6.out⟩
end Go.Proofs.Ytommagdddleoiab
