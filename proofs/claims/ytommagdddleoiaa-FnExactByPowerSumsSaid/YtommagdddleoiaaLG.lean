/- ByPowerSums, of both, by contracts; the walk of its law. -/
import Derived.Test.YtommagdddleoiaaLF
namespace Go.Proofs.Ytommagdddleoiaa
open Go.RowKit
/-- All sums of powers but the last are 0, the last one is not. -/
def bps (m : Nat) (t : Nat → Int) : Bool := ((List.range (m - 2)).all fun j => decide (psum m t (j + 1) = 0)) && !decide (psum m t (m - 1) = 0)
theorem bps_no {m k : Nat} {t : Nat → Int} (h1 : 1 ≤ k) (h2 : k < m - 1) (h : psum m t k ≠ 0) : bps m t = false := by
  unfold bps
  rw [Bool.and_eq_false_iff]
  left
  rw [List.all_eq_false]
  exact ⟨k - 1, List.mem_range.2 (by omega), by rw [show k - 1 + 1 = k by omega]; simpa using h⟩
theorem bps_end {m : Nat} {t : Nat → Int} (h : ∀ j, 1 ≤ j → j < m - 1 → psum m t j = 0) : bps m t = !decide (psum m t (m - 1) = 0) := by
  unfold bps
  have : ((List.range (m - 2)).all fun j => decide (psum m t (j + 1) = 0)) = true := by
    rw [List.all_eq_true]
    intro j hj
    have := List.mem_range.1 hj
    simpa using h (j + 1) (by omega) (by omega)
  rw [this, Bool.true_and]

theorem spec_ByPowerSums_no (q : Int) (v : Value) (l : List Int) (w : World) (hv : Sl w v l) (hl : l.length ≤ 1048576) (hg : (isSz q && good q l) = false) :
    Calls Try.prog 21 #[.int .i64 q, v] w fun e w' => e = .returned (.tuple #[.bool false, .bool false]) ∧ Below w.heap.size w w' := by
  have hp := plGood_any q v l w hv hl
  rw [hg] at hp
  have HP := Lib.hid hp
  clear hp hg hv hl
  go_enter Try.func21, Try.ntmps21
  go_wp2_with fail
  refine HP.out.mono ?_
  rintro e w1 ⟨rfl, hb1⟩
  go_wp2
  go_ret2
  exact ⟨rfl, hb1⟩
theorem impl_ByPowerSums_no (q : Int) (v : Value) (l : List Int) (w : World) (hv : Sl w v l) (hl : l.length ≤ 1048576) (hg : (isSz q && good q l) = false) :
    Calls Try.prog 22 #[.int .i64 q, v] w fun e w' => e = .returned (.tuple #[.bool false, .bool false]) ∧ Below w.heap.size w w' := by
  have HP := Lib.hid (validPoly_no q v l w hv hl hg)
  clear hg hv hl
  go_enter Try.func22, Try.ntmps22
  go_wp2_with fail
  refine HP.out.mono ?_
  rintro e w1 ⟨rfl, hb1⟩
  have hz_hb1 := hb1.size; (try simp at hz_hb1)
  have HB1 := Lib.hid hb1; clear hb1
  go_wp2_with fail
  go_ret2
  have hb1 := HB1.out
  exact ⟨rfl, by (repeat' (first | (with_reducible assumption) | (with_reducible exact Below.refl _ _) | (with_reducible refine below_drewN ?_ _) | (with_reducible refine Below.drew ?_) | (with_reducible refine Below.alloc ?_ ?_ _) | (with_reducible refine Below.setCell ?_ ?_ _) | (with_reducible refine Below.trans ?_ (Below.mono (by assumption) ?_)) | (with_reducible exact Nat.le_refl _) | (with_reducible assumption) | omega | (simp; omega) | (simp; done)))⟩
set_option maxHeartbeats 2000000 in
theorem spec_ByPowerSums_yes (m : Nat) (v : Value) (l : List Int) (w : World) (h : isSz (m : Int) = true) (hv : Sl w v l) (hg : good (m : Int) l = true) :
    Calls Try.prog 21 #[.int .i64 m, v] w fun e w' => e = .returned (.tuple #[.bool (bps m (tabF (m : Int) (fun i => l.getD i 0) l.length)), .bool true]) ∧ Below w.heap.size w w' := by
  have hq := isSz_le (m : Int) h
  have hlen := (good_parts hg).1
  have hp := plGood_any (m : Int) v l w hv (by omega)
  rw [h, hg] at hp
  have HP := Lib.hid hp
  have HV := Lib.hid (fun w' (hb : Below w.heap.size w w') => plValues_any (m : Int) v l w' h (hv.below hb (Nat.le_refl _)) hg)
  have HTE := Lib.hid (fun i (hi : i < m) => tab_el (k := l.length) h (all_el h (good_parts hg).2) i hi)
  simp only [Int.toNat_natCast] at HV
  have HA := Lib.hid (fun k v' w' (hk : k < m) (hs : Sl w' v' (fl (tabF (m : Int) (fun i => l.getD i 0) l.length) m)) => peSum_any m k v' (tabF (m : Int) (fun i => l.getD i 0) l.length) w' h hs HTE.out (by omega))
  have HNO := Lib.hid (fun k (h1 : 1 ≤ k) (h2 : k < m - 1) (h3 : psum m (tabF (m : Int) (fun i => l.getD i 0) l.length) k ≠ 0) => bps_no h1 h2 h3)
  have HEND := Lib.hid (fun h => bps_end (m := m) (t := (tabF (m : Int) (fun i => l.getD i 0) l.length)) h)
  clear hp hg hv h HTE
  generalize bps m (tabF (m : Int) (fun i => l.getD i 0) l.length) = r at *
  generalize psum m (tabF (m : Int) (fun i => l.getD i 0) l.length) = P at *
  generalize (tabF (m : Int) (fun i => l.getD i 0) l.length) = t at *
  go_enter Try.func21, Try.ntmps21
  go_wp2_with fail
  refine HP.out.mono ?_
  rintro e w1 ⟨rfl, hb1⟩
  have hz_hb1 := hb1.size; (try simp at hz_hb1)
  have HB1 := Lib.hid hb1; clear hb1
  go_wp2_with fail
  refine (HV.out _ HB1.out).mono ?_
  rintro e w3 ⟨v3, rfl, hr3, hb3⟩
  have hz_hb3 := hb3.size; (try simp at hz_hb3)
  have HR3 := Lib.hid hr3; clear hr3
  have HB3 : Hid (Below w.heap.size w w3) := Lib.hid (HB1.out.trans (hb3.mono hz_hb1)); clear hb3
  go_wp2_with fail
  go_loopw [7] (fun vk wr => ∃ k : Nat, 1 ≤ k ∧ k ≤ m - 1 ∧ vk = .int .i64 k ∧ (∀ j, 1 ≤ j → j < k → P j = 0) ∧ Below w3.heap.size w3 wr) (fun vk _ => m - (intOf vk).toNat)
  case atStart => exact ⟨1, Nat.le_refl _, by omega, rfl, fun j h1 h2 => by omega, Below.refl _ _⟩
  case round =>
    obtain ⟨k, h1, hk, rfl, hz, hb⟩ := hrel
    have hzw := hb.size
    by_cases hlt : k < m - 1
    · have hlti : (k : Int) < (m : Int) - 1 := by omega
      have HA' := Lib.hid (fun w' hs => HA.out k v3 w' (by omega) hs)
      have HNO' := Lib.hid (fun h => HNO.out k h1 hlt h)
      have HZ := Lib.hid hz; clear hz
      have HB := Lib.hid hb; clear hb
      generalize hx : P k = x at *
      have HX := Lib.hid hx; clear hx
      by_cases hx0 : x = 0
      · subst hx0
        go_wp2_with fail
        refine (HA'.out _ ((HR3.out.below HB.out).sl)).mono ?_
        rintro e w4 ⟨rfl, hb4⟩
        have HB4 := Lib.hid hb4; clear hb4
        go_wp2
        go_roundw
        case rel =>
          refine ⟨k + 1, by omega, by omega, by go_num, ?_, HB.out.trans (HB4.out.mono hzw)⟩
          intro j h1 h2
          by_cases e : j = k
          · subst e
            exact HX.out
          · exact HZ.out j h1 (by omega)
        case measure => simp [intOf]; omega
      · have HF := Lib.hid (HNO'.out hx0)
        go_wp2_with fail
        refine (HA'.out _ ((HR3.out.below HB.out).sl)).mono ?_
        rintro e w4 ⟨rfl, hb4⟩
        have HB4 := Lib.hid hb4; clear hb4
        go_wp2
        go_ret2
        exact ⟨by rw [HF.out]; rfl, HB3.out.trans ((HB.out.trans (HB4.out.mono hzw)).mono HB3.out.size)⟩
    · obtain rfl : k = m - 1 := by omega
      have hcast : ((m - 1 : Nat) : Int) = (m : Int) - 1 := by omega
      have HA' := Lib.hid (fun w' hs => HA.out (m - 1) v3 w' (by omega) hs)
      rw [hcast] at HA'
      have HF := Lib.hid (HEND.out hz)
      have HB := Lib.hid hb; clear hb hz
      rw [hcast]
      generalize P (m - 1) = x at *
      go_wp2_with fail
      refine (HA'.out _ ((HR3.out.below HB.out).sl)).mono ?_
      rintro e w4 ⟨rfl, hb4⟩
      have HB4 := Lib.hid hb4; clear hb4
      go_wp2
      go_ret2
      exact ⟨by rw [HF.out]; by_cases h : x = 0 <;> simp [h], HB3.out.trans ((HB.out.trans (HB4.out.mono hzw)).mono HB3.out.size)⟩
set_option maxRecDepth 100000 in
set_option maxHeartbeats 8000000 in
/-- impl.poly.permutesByPowerSums. -/
theorem byPowerSumsE (m g n cap : Nat) (f : Nat → Int) (w : World) (h : isSz (m : Int) = true) (hg : g < w.heap.size) (he : Els w g (m : Int) f n) (hf : ∀ i, El (m : Int) (f i)) (hn : n ≤ 1000) :
    Calls Try.prog 48 #[polyE (m : Int) (.slice (some ⟨g, 0, none⟩) n cap)] w fun e w' => e = .returned (.bool (bps m (tabF (m : Int) f n))) ∧ Below w.heap.size w w' := by
  have hq := isSz_le (m : Int) h
  have HT := Lib.hid (fun w' (hb : Below w.heap.size w w') => tableM m g n cap f w' h (by have := hb.size; omega) (he.below hb hg) (fun i _ => hf i) hn)
  have HTE := Lib.hid (fun i (hi : i < m) => tab_el (k := n) h hf i hi)
  generalize tabF (m : Int) f n = t at *
  have HPS := Lib.hid (fun k v w' (hk : k < m) (hs : Se w' v (m : Int) t m) => powerSumE m k v t w' h hs HTE.out (by omega))
  have HPE := Lib.hid (fun k => psum_el (k := k) h HTE.out)
  have HZR := Lib.hid (fun k w => isZeroE (m : Int) (psum m t k) w h (HPE.out k).1 (HPE.out k).2)
  have HNO := Lib.hid (fun k (h1 : 1 ≤ k) (h2 : k < m - 1) (h3 : psum m t k ≠ 0) => bps_no h1 h2 h3)
  have HEND := Lib.hid (fun h => bps_end (m := m) (t := t) h)
  clear he hf h HPE HTE
  generalize bps m t = r at *
  generalize psum m t = P at *
  go_enter Try.func48, Try.ntmps48
  go_wp2_with fail
  have HKEEP : Hid (∀ w', Below (w.heap.size + 1) (w.alloc (pblk (m : Int) (.slice (some ⟨g, 0, none⟩) n cap))) w' → w'.cell? ⟨w.heap.size, 0, none⟩ = some (.int .i64 m) ∧ w'.cell? ⟨w.heap.size, 1, none⟩ = some (.int .i64 (pr m)) ∧ w'.cell? ⟨w.heap.size, 2, none⟩ = some (.int .i64 (pl m)) ∧ w'.cell? ⟨w.heap.size, 3, none⟩ = some (.slice (some ⟨g, 0, none⟩) n cap)) := Lib.hid fun w' hb => by
    obtain ⟨x0, x1, x2, x3, _⟩ := cells4 ((hb.block _ (by omega)).trans (heap_alloc_new w (pblk (m : Int) (.slice (some ⟨g, 0, none⟩) n cap))))
    exact ⟨x0, x1, x2, x3⟩
  go_region_held3 (fun w' => w'.cell? ⟨w.heap.size, 0, none⟩ = some (.int .i64 m) ∧ w'.cell? ⟨w.heap.size, 1, none⟩ = some (.int .i64 (pr m)) ∧ w'.cell? ⟨w.heap.size, 2, none⟩ = some (.int .i64 (pl m)) ∧ w'.cell? ⟨w.heap.size, 3, none⟩ = some (.slice (some ⟨g, 0, none⟩) n cap))
    (exact HKEEP.out _ (by (try have hb2 := HB2.out); (repeat' (first | (with_reducible assumption) | (with_reducible exact Below.refl _ _) | (with_reducible refine below_drewN ?_ _) | (with_reducible refine Below.drew ?_) | (with_reducible refine Below.alloc ?_ ?_ _) | (with_reducible refine Below.setCell ?_ ?_ _) | (with_reducible refine Below.trans ?_ (Below.mono (by assumption) ?_)) | (with_reducible exact Nat.le_refl _) | (with_reducible assumption) | omega | (simp; omega) | (simp; done)))))
    (first
    | (go_at_call 42; refine (HT.out _ (by (repeat' (first | (with_reducible assumption) | (with_reducible exact Below.refl _ _) | (with_reducible refine below_drewN ?_ _) | (with_reducible refine Below.drew ?_) | (with_reducible refine Below.alloc ?_ ?_ _) | (with_reducible refine Below.setCell ?_ ?_ _) | (with_reducible refine Below.trans ?_ (Below.mono (by assumption) ?_)) | (with_reducible exact Nat.le_refl _) | (with_reducible assumption) | omega | (simp; omega) | (simp; done))))).mono ?_; rintro e w2 ⟨g2, rfl, hg2, hk2, he2, hb2⟩; have HSE2 : Hid (Se w2 (.slice (some ⟨g2, 0, none⟩) m m) (m : Int) t m) := Lib.hid ⟨g2, _, rfl, hk2.lt, he2⟩; clear hk2 he2; obtain ⟨hc2, hf2⟩ := bcell hb2; (try simp only [World.size_drew] at hc2 hf2); have hz2 := hb2.size; (try simp at hz2); have HB2 := Lib.hid hb2; clear hb2))
  all_goals
    go_wp2_with fail
    have hbk : ∀ wr, Below w2.heap.size w2 wr → Below (w.heap.size + 1) (w.alloc (pblk (m : Int) (.slice (some ⟨g, 0, none⟩) n cap))) wr := fun wr hb => by
      have hb2 := HB2.out
      exact (show Below (w.heap.size + 1) (w.alloc (pblk (m : Int) (.slice (some ⟨g, 0, none⟩) n cap))) w2 by (repeat' (first | (with_reducible assumption) | (with_reducible exact Below.refl _ _) | (with_reducible refine below_drewN ?_ _) | (with_reducible refine Below.drew ?_) | (with_reducible refine Below.alloc ?_ ?_ _) | (with_reducible refine Below.setCell ?_ ?_ _) | (with_reducible refine Below.trans ?_ (Below.mono (by assumption) ?_)) | (with_reducible exact Nat.le_refl _) | (with_reducible assumption) | omega | (simp; omega) | (simp; done)))).trans (hb.mono (by omega))
    have HBK := Lib.hid hbk; clear hbk
    have HBW : Hid (∀ wr, Below w2.heap.size w2 wr → Below w.heap.size w wr) := Lib.hid fun wr hb => by
      have hb2 := HB2.out
      exact (show Below w.heap.size w w2 by (repeat' (first | (with_reducible assumption) | (with_reducible exact Below.refl _ _) | (with_reducible refine below_drewN ?_ _) | (with_reducible refine Below.drew ?_) | (with_reducible refine Below.alloc ?_ ?_ _) | (with_reducible refine Below.setCell ?_ ?_ _) | (with_reducible refine Below.trans ?_ (Below.mono (by assumption) ?_)) | (with_reducible exact Nat.le_refl _) | (with_reducible assumption) | omega | (simp; omega) | (simp; done)))).trans (hb.mono (by omega))
    clear hc2 hf2
    go_loopw [5] (fun vk wr => ∃ k : Nat, 1 ≤ k ∧ k ≤ m - 1 ∧ vk = .int .i64 k ∧ (∀ j, 1 ≤ j → j < k → P j = 0) ∧ Below w2.heap.size w2 wr) (fun vk _ => m - (intOf vk).toNat)
    case atStart => exact ⟨1, Nat.le_refl _, by omega, rfl, fun j h1 h2 => by omega, by first | exact Below.refl _ _ | (repeat' (first | (with_reducible assumption) | (with_reducible exact Below.refl _ _) | (with_reducible refine below_drewN ?_ _) | (with_reducible refine Below.drew ?_) | (with_reducible refine Below.alloc ?_ ?_ _) | (with_reducible refine Below.setCell ?_ ?_ _) | (with_reducible refine Below.trans ?_ (Below.mono (by assumption) ?_)) | (with_reducible exact Nat.le_refl _) | (with_reducible assumption) | omega | (simp; omega) | (simp; done)))⟩
    case round =>
      obtain ⟨k, h1, hk, rfl, hz, hb⟩ := hrel
      have hzw := hb.size
      obtain ⟨x0, x1, x2, x3⟩ := HKEEP.out _ (HBK.out _ hb)
      by_cases hlt : k < m - 1
      · have hlti : (k : Int) < (m : Int) - 1 := by omega
        have HA' := Lib.hid (fun w' (hs : Below w2.heap.size w2 w') => HPS.out k _ w' (by omega) (HSE2.out.below hs (Nat.le_refl _)))
        have HNO' := Lib.hid (fun h => HNO.out k h1 hlt h)
        have HZ := Lib.hid hz; clear hz
        have HB := Lib.hid hb; clear hb
        have HZR' := Lib.hid (fun w => HZR.out k w)
        generalize hx : P k = x at *
        have HX := Lib.hid hx; clear hx
        by_cases hx0 : x = 0
        · subst hx0
          go_wp2_with fail
          refine (HA'.out _ HB.out).mono ?_
          rintro e w4 ⟨rfl, hb4⟩
          have hz4 := hb4.size
          have HB4 := Lib.hid hb4; clear hb4
          go_wp2_with fail
          refine (HZR'.out _).mono ?_
          rintro e w5 ⟨rfl, hb5⟩
          have HB5 := Lib.hid hb5; clear hb5
          go_wp2
          go_roundw
          case rel =>
            refine ⟨k + 1, by omega, by omega, by go_num, ?_, HB.out.trans ((HB4.out.trans (HB5.out.mono hz4)).mono hzw)⟩
            intro j h1 h2
            by_cases e : j = k
            · subst e
              exact HX.out
            · exact HZ.out j h1 (by omega)
          case measure => simp [intOf]; omega
        · have HF := Lib.hid (HNO'.out hx0)
          have HD : Hid (decide (x = 0) = false) := Lib.hid (by simp [hx0])
          rw [HD.out] at HZR'
          go_wp2_with fail
          refine (HA'.out _ HB.out).mono ?_
          rintro e w4 ⟨rfl, hb4⟩
          have hz4 := hb4.size
          have HB4 := Lib.hid hb4; clear hb4
          go_wp2_with fail
          refine (HZR'.out _).mono ?_
          rintro e w5 ⟨rfl, hb5⟩
          have HB5 := Lib.hid hb5; clear hb5
          go_wp2
          go_ret
          exact ⟨by rw [HF.out]; rfl, HBW.out _ (HB.out.trans ((HB4.out.trans (HB5.out.mono hz4)).mono hzw))⟩
      · obtain rfl : k = m - 1 := by omega
        have hcast : ((m - 1 : Nat) : Int) = (m : Int) - 1 := by omega
        have HA' := Lib.hid (fun w' (hs : Below w2.heap.size w2 w') => HPS.out (m - 1) _ w' (by omega) (HSE2.out.below hs (Nat.le_refl _)))
        rw [hcast] at HA'
        have HZR' := Lib.hid (fun w => HZR.out (m - 1) w)
        have HF := Lib.hid (HEND.out hz)
        have HB := Lib.hid hb; clear hb hz
        rw [hcast]
        generalize P (m - 1) = x at *
        generalize decide (x = 0) = d at *
        go_wp2_with fail
        refine (HA'.out _ HB.out).mono ?_
        rintro e w4 ⟨rfl, hb4⟩
        have hz4 := hb4.size
        have HB4 := Lib.hid hb4; clear hb4
        go_wp2_with fail
        refine (HZR'.out _).mono ?_
        rintro e w5 ⟨rfl, hb5⟩
        have HB5 := Lib.hid hb5; clear hb5
        go_wp2
        go_ret
        exact ⟨ret_bool HF.out.symm, HBW.out _ (HB.out.trans ((HB4.out.trans (HB5.out.mono hz4)).mono hzw))⟩
set_option maxHeartbeats 2000000 in
theorem impl_ByPowerSums_yes (m : Nat) (v : Value) (l : List Int) (w : World) (h : isSz (m : Int) = true) (hv : Sl w v l) (hg : good (m : Int) l = true) :
    Calls Try.prog 22 #[.int .i64 m, v] w fun e w' => e = .returned (.tuple #[.bool (bps m (tabF (m : Int) (fun i => l.getD i 0) l.length)), .bool true]) ∧ Below w.heap.size w w' := by
  have hq := isSz_le (m : Int) h
  have hlen := (good_parts hg).1
  have hf := all_el h (good_parts hg).2
  have HP := Lib.hid (validPoly_yes (m : Int) v l w h hv hg)
  have HT := Lib.hid (fun (g1 : Nat) w' (hgl1 : g1 < w'.heap.size) (he1 : Els w' g1 (m : Int) (fun i => l.getD i 0) l.length) => byPowerSumsE m g1 l.length l.length (fun i => l.getD i 0) w' h hgl1 he1 hf (by omega))
  clear hg hv h hf
  generalize bps m (tabF (m : Int) (fun i => l.getD i 0) l.length) = r at *
  generalize (fun i => l.getD i 0) = f at *
  generalize l.length = n at *
  go_enter Try.func22, Try.ntmps22
  go_wp2_with fail
  refine HP.out.mono ?_
  rintro e w1 ⟨g1, rfl, hgg1, hk1', he1, hb1⟩
  have hgl1 := hk1'.lt
  have HE1 := Lib.hid he1; clear he1 hk1'
  have hz_hb1 := hb1.size; (try simp at hz_hb1)
  have HB1 := Lib.hid hb1; clear hb1
  go_wp2_with fail
  refine (HT.out g1 _ (by simp; omega) (HE1.out.below (B := w1.heap.size) (by (repeat' (first | (with_reducible assumption) | (with_reducible exact Below.refl _ _) | (with_reducible refine below_drewN ?_ _) | (with_reducible refine Below.drew ?_) | (with_reducible refine Below.alloc ?_ ?_ _) | (with_reducible refine Below.setCell ?_ ?_ _) | (with_reducible refine Below.trans ?_ (Below.mono (by assumption) ?_)) | (with_reducible exact Nat.le_refl _) | (with_reducible assumption) | omega | (simp; omega) | (simp; done)))) hgl1)).mono ?_
  rintro e w2 ⟨rfl, hb2⟩
  have hz_hb2 := hb2.size; (try simp at hz_hb2)
  have HB2 := Lib.hid hb2; clear hb2
  go_wp2
  go_ret2
  have hb1 := HB1.out
  have hb2 := HB2.out
  exact ⟨rfl, by (repeat' (first | (with_reducible assumption) | (with_reducible exact Below.refl _ _) | (with_reducible refine below_drewN ?_ _) | (with_reducible refine Below.drew ?_) | (with_reducible refine Below.alloc ?_ ?_ _) | (with_reducible refine Below.setCell ?_ ?_ _) | (with_reducible refine Below.trans ?_ (Below.mono (by assumption) ?_)) | (with_reducible exact Nat.le_refl _) | (with_reducible assumption) | omega | (simp; omega) | (simp; done)))⟩
theorem key_ByPowerSums (q : Int) (l_f : List Int) (b_f : l_f.length ≤ 1048576) : ∃ (r : Bool) (o : Bool), (∀ (w : World) (v_f : Value) (_ : Sl w v_f l_f), Calls Try.prog 21 #[.int .i64 q, v_f] w fun e w' => e = .returned (.tuple #[.bool r, .bool o]) ∧ Below w.heap.size w w') ∧
      (∀ (w : World) (v_f : Value) (_ : Sl w v_f l_f), Calls Try.prog 22 #[.int .i64 q, v_f] w fun e w' => e = .returned (.tuple #[.bool r, .bool o]) ∧ Below w.heap.size w w') := by
  cases h : isSz q && good q l_f with
  | false => exact ⟨false, false, fun w v hv => spec_ByPowerSums_no q v l_f w hv b_f h, fun w v hv => impl_ByPowerSums_no q v l_f w hv b_f h⟩
  | true =>
    simp only [Bool.and_eq_true] at h
    have hq := isSz_le q h.1
    obtain ⟨m, rfl⟩ := Int.eq_ofNat_of_zero_le (show 0 ≤ q by omega)
    have hlen := (good_parts h.2).1
    exact ⟨bps m (tabF (m : Int) (fun i => l_f.getD i 0) l_f.length), true, fun w v hv => spec_ByPowerSums_yes m v l_f w h.1 hv h.2, fun w v hv => impl_ByPowerSums_yes m v l_f w h.1 hv h.2⟩
set_option maxRecDepth 100000 in
set_option maxHeartbeats 4000000 in
/-- laws.FnExactByPowerSums. -/
theorem walk_FnExactByPowerSums (q : Int) (a_f : Option Addr) (n_f c_f : Nat) (z_f : List Int) (w : World) (_h_q : (Lit.int .i64 q).wf = true) (h_f : IsRow .i64 w a_f n_f c_f z_f) :
    Calls Try.prog 6 #[.int .i64 q, .slice a_f n_f c_f] w fun e w' => e = .returned (.bool true) ∧ Below w.heap.size w w' := by
  clear _h_q
  obtain ⟨hs_f, hl_f, _⟩ := h_f.sl
  generalize z_f.take n_f = l_f at *
  clear h_f
  subst hl_f
  by_cases b_f : l_f.length ≤ 1048576
  rotate_left
  · have hn_f : (1048576 : Int) < (l_f.length : Int) := by omega
    go_enter Try.func6, Try.ntmps6
    go_wp2
    go_ret
    exact ⟨rfl, Below.refl _ _⟩
  have hn_f : ¬ (1048576 : Int) < (l_f.length : Int) := by omega
  obtain ⟨r, o, k1, k2⟩ := key_ByPowerSums q l_f b_f
  have K1 := Lib.hid k1; clear k1
  have K2 := Lib.hid k2; clear k2
  have HS_f := Lib.hid hs_f; clear hs_f
  have HB0 : Hid (Below w.heap.size w w) := Lib.hid (Below.refl _ _)
  go_enter Try.func6, Try.ntmps6
  go_wp2_with fail
  refine (toIntS_any _ l_f _ (HS_f.out.below HB0.out (Nat.le_refl _)) b_f).mono ?_
  rintro e w1 ⟨v_s_f, rfl, hrw1, hbw1⟩
  have hzw1 : w.heap.size ≤ w1.heap.size := hbw1.size
  have HBw1 : Hid (Below w.heap.size w w1) := Lib.hid (HB0.out.trans (hbw1.mono HB0.out.size))
  have hww1 := HBw1.out.size
  clear hbw1 HB0
  have R_s_f_w1 := Lib.hid hrw1; clear hrw1
  have lt_s_f : Hid (∀ g, v_s_f.ownBlock = some g → w.heap.size ≤ g ∧ g < w1.heap.size) := Lib.hid R_s_f_w1.out.lt
  go_wp2_with fail
  refine (K1.out _ v_s_f R_s_f_w1.out.sl).mono ?_
  rintro e w2 ⟨rfl, hbw2⟩
  have hzw2 : w1.heap.size ≤ w2.heap.size := hbw2.size
  have R_s_f_w2 := Lib.hid (R_s_f_w1.out.below hbw2)
  clear R_s_f_w1
  have HBw2 : Hid (Below w.heap.size w w2) := Lib.hid (HBw1.out.trans (hbw2.mono HBw1.out.size))
  have hww2 := HBw2.out.size
  clear hbw2 HBw1
  clear R_s_f_w2 lt_s_f
  go_wp2_with fail
  refine (toIntS_any _ l_f _ (HS_f.out.below HBw2.out (Nat.le_refl _)) b_f).mono ?_
  rintro e w3 ⟨v_x_f, rfl, hrw3, hbw3⟩
  have hzw3 : w2.heap.size ≤ w3.heap.size := hbw3.size
  have HBw3 : Hid (Below w.heap.size w w3) := Lib.hid (HBw2.out.trans (hbw3.mono HBw2.out.size))
  have hww3 := HBw3.out.size
  clear hbw3 HBw2
  have R_x_f_w3 := Lib.hid hrw3; clear hrw3
  have lt_x_f : Hid (∀ g, v_x_f.ownBlock = some g → w2.heap.size ≤ g ∧ g < w3.heap.size) := Lib.hid R_x_f_w3.out.lt
  go_wp2_with fail
  refine (K2.out _ v_x_f R_x_f_w3.out.sl).mono ?_
  rintro e w4 ⟨rfl, hbw4⟩
  have hzw4 : w3.heap.size ≤ w4.heap.size := hbw4.size
  have R_x_f_w4 := Lib.hid (R_x_f_w3.out.below hbw4)
  clear R_x_f_w3
  have HBw4 : Hid (Below w.heap.size w w4) := Lib.hid (HBw3.out.trans (hbw4.mono HBw3.out.size))
  have hww4 := HBw4.out.size
  clear hbw4 HBw3
  go_wp2_with fail
  refine (toIntS_any _ l_f _ (HS_f.out.below HBw4.out (Nat.le_refl _)) b_f).mono ?_
  rintro e w5 ⟨v_y_f, rfl, hrw5, hbw5⟩
  have hzw5 : w4.heap.size ≤ w5.heap.size := hbw5.size
  have R_x_f_w5 := Lib.hid (R_x_f_w4.out.below hbw5)
  clear R_x_f_w4
  have HBw5 : Hid (Below w.heap.size w w5) := Lib.hid (HBw4.out.trans (hbw5.mono HBw4.out.size))
  have hww5 := HBw5.out.size
  clear hbw5 HBw4
  have R_y_f_w5 := Lib.hid hrw5; clear hrw5
  have lt_y_f : Hid (∀ g, v_y_f.ownBlock = some g → w4.heap.size ≤ g ∧ g < w5.heap.size) := Lib.hid R_y_f_w5.out.lt
  go_wp2_with fail
  refine (eq_same v_x_f v_y_f l_f _ _ _ R_x_f_w5.out R_y_f_w5.out (by omega)).mono ?_
  rintro e w6 ⟨rfl, hbw6⟩
  have hzw6 : w5.heap.size ≤ w6.heap.size := hbw6.size
  have R_x_f_w6 := Lib.hid (R_x_f_w5.out.below hbw6)
  clear R_x_f_w5
  have R_y_f_w6 := Lib.hid (R_y_f_w5.out.below hbw6)
  clear R_y_f_w5
  have HBw6 : Hid (Below w.heap.size w w6) := Lib.hid (HBw5.out.trans (hbw6.mono HBw5.out.size))
  have hww6 := HBw6.out.size
  clear hbw6 HBw5
  clear R_y_f_w6 lt_y_f
  go_wp2
  go_ret
  exact ⟨rfl, HBw6.out⟩
end Go.Proofs.Ytommagdddleoiaa
