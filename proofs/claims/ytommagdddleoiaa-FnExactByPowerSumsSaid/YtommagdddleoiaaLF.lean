/- PowerSumOf and ByPowerSums, of both, by contracts; the walks of their laws. -/
import Derived.Test.YtommagdddleoiaaLE
namespace Go.Proofs.Ytommagdddleoiaa
open Go.RowKit
/-- The power is in its limits. -/
def inK (k : Int) : Bool := decide (0 ≤ k) && decide (k ≤ 100)
theorem spec_PowerSumOf_no (q k : Int) (v : Value) (l : List Int) (w : World) (hv : Sl w v l) (hl : l.length ≤ 1048576) (hn : ((isSz q && good q l) && inK k) = false) :
    Calls Try.prog 19 #[.int .i64 q, v, .int .i64 k] w fun e w' => e = .returned (.tuple #[.int .i64 0, .bool false]) ∧ Below w.heap.size w w' := by
  have hp := plGood_any q v l w hv hl
  cases hg : isSz q && good q l with
  | false =>
    rw [hg] at hp
    have HP := Lib.hid hp
    clear hp hg hv hl hn
    go_enter Try.func19, Try.ntmps19
    go_wp2_with fail
    refine HP.out.mono ?_
    rintro e w1 ⟨rfl, hb1⟩
    go_wp2
    go_ret2
    exact ⟨rfl, hb1⟩
  | true =>
    rw [hg] at hp hn
    have HP := Lib.hid hp
    have HI := Lib.hid (show ∀ w, Calls Try.prog 44 #[.int .i64 k, .int .i64 0, .int .i64 100] w fun e w' => e = .returned (.bool false) ∧ w = w' from fun w => by
      have h1 := l1In_any k 0 100 w
      have h2 : (decide (0 ≤ k) && decide (k ≤ 100)) = false := hn
      rw [h2] at h1
      exact h1)
    clear hp hg hv hl hn
    go_enter Try.func19, Try.ntmps19
    go_wp2_with fail
    refine HP.out.mono ?_
    rintro e w1 ⟨rfl, hb1⟩
    have hz_hb1 := hb1.size; (try simp at hz_hb1)
    have HB1 := Lib.hid hb1; clear hb1
    go_wp2_with fail
    refine (HI.out _).mono ?_
    rintro e w2 ⟨rfl, rfl⟩
    go_wp2
    go_ret2
    exact ⟨rfl, HB1.out⟩
theorem impl_PowerSumOf_no1 (q k : Int) (v : Value) (l : List Int) (w : World) (hv : Sl w v l) (hl : l.length ≤ 1048576) (hn : (isSz q && good q l) = false) :
    Calls Try.prog 20 #[.int .i64 q, v, .int .i64 k] w fun e w' => e = .returned (.tuple #[.int .i64 0, .bool false]) ∧ Below w.heap.size w w' := by
  have HP := Lib.hid (validPoly_no q v l w hv hl hn)
  clear hv hl hn
  go_enter Try.func20, Try.ntmps20
  go_wp2_with fail
  refine HP.out.mono ?_
  rintro e w1 ⟨rfl, hb1⟩
  have hz_hb1 := hb1.size; (try simp at hz_hb1)
  have HB1 := Lib.hid hb1; clear hb1
  go_wp2_with fail
  go_ret2
  have hb1 := HB1.out
  exact ⟨rfl, by (repeat' (first | (with_reducible assumption) | (with_reducible exact Below.refl _ _) | (with_reducible refine below_drewN ?_ _) | (with_reducible refine Below.drew ?_) | (with_reducible refine Below.alloc ?_ ?_ _) | (with_reducible refine Below.setCell ?_ ?_ _) | (with_reducible refine Below.trans ?_ (Below.mono (by assumption) ?_)) | (with_reducible exact Nat.le_refl _) | (with_reducible assumption) | omega | (simp; omega) | (simp; done)))⟩
theorem impl_PowerSumOf_no2 (q k : Int) (v : Value) (l : List Int) (w : World) (h : isSz q = true) (hv : Sl w v l) (hg : good q l = true) (hk : inK k = false) :
    Calls Try.prog 20 #[.int .i64 q, v, .int .i64 k] w fun e w' => e = .returned (.tuple #[.int .i64 0, .bool false]) ∧ Below w.heap.size w w' := by
  have HP := Lib.hid (validPoly_yes q v l w h hv hg)
  clear hv h hg
  by_cases h0 : k < 0
  · clear hk
    go_enter Try.func20, Try.ntmps20
    go_wp2_with fail
    refine HP.out.mono ?_
    rintro e w1 ⟨g, rfl, _, _, _, hb1⟩
    have hz_hb1 := hb1.size; (try simp at hz_hb1)
    have HB1 := Lib.hid hb1; clear hb1
    go_wp2_with fail
    go_ret2
    have hb1 := HB1.out
    exact ⟨rfl, by (repeat' (first | (with_reducible assumption) | (with_reducible exact Below.refl _ _) | (with_reducible refine below_drewN ?_ _) | (with_reducible refine Below.drew ?_) | (with_reducible refine Below.alloc ?_ ?_ _) | (with_reducible refine Below.setCell ?_ ?_ _) | (with_reducible refine Below.trans ?_ (Below.mono (by assumption) ?_)) | (with_reducible exact Nat.le_refl _) | (with_reducible assumption) | omega | (simp; omega) | (simp; done)))⟩
  · have h1 : 100 < k := by
      simp only [inK, Bool.and_eq_false_iff, decide_eq_false_iff_not] at hk
      omega
    clear hk
    go_enter Try.func20, Try.ntmps20
    go_wp2_with fail
    refine HP.out.mono ?_
    rintro e w1 ⟨g, rfl, _, _, _, hb1⟩
    have hz_hb1 := hb1.size; (try simp at hz_hb1)
    have HB1 := Lib.hid hb1; clear hb1
    go_wp2_with fail
    go_ret2
    have hb1 := HB1.out
    exact ⟨rfl, by (repeat' (first | (with_reducible assumption) | (with_reducible exact Below.refl _ _) | (with_reducible refine below_drewN ?_ _) | (with_reducible refine Below.drew ?_) | (with_reducible refine Below.alloc ?_ ?_ _) | (with_reducible refine Below.setCell ?_ ?_ _) | (with_reducible refine Below.trans ?_ (Below.mono (by assumption) ?_)) | (with_reducible exact Nat.le_refl _) | (with_reducible assumption) | omega | (simp; omega) | (simp; done)))⟩

set_option maxHeartbeats 2000000 in
/-- spec.peSum. -/
theorem peSum_any (m K : Nat) (v : Value) (t : Nat → Int) (w : World) (h : isSz (m : Int) = true) (hv : Sl w v (fl t m)) (ht : ∀ i, i < m → El (m : Int) (t i)) (hK : K ≤ 1000) :
    Calls Try.prog 45 #[.int .i64 m, v, .int .i64 K] w fun e w' => e = .returned (.int .i64 (psum m t K)) ∧ Below w.heap.size w w' := by
  have hq := isSz_le (m : Int) h
  obtain ⟨a, cap, rfl, hp⟩ := hv.parts
  obtain ⟨b, off, rfl, hb, hcl⟩ := hp (by omega)
  have HC := Lib.hid hcl
  have HPW : Hid (∀ i w, i < m → Calls Try.prog 83 #[.int .i64 m, .int .i64 (t i), .int .i64 K] w fun e w' => e = .returned (.int .i64 (pw (m : Int) (t i) K)) ∧ Below w.heap.size w w') := Lib.hid fun i w hi => by
    have := fdPower_any (m : Int) (t i) (K : Int) w h (ht i hi).1 (ht i hi).2 (by omega) (by omega)
    rw [Int.toNat_natCast] at this
    exact this
  have HSE : Hid (∀ k, k ≤ m → El (m : Int) (lsum (m : Int) (fun i => pw (m : Int) (t i) K) k)) := Lib.hid fun k hk => lsum_el h fun i hi => El.pw h (ht i (by omega)) K
  have HPL : Hid (∀ k w, k < m → Calls Try.prog 55 #[.int .i64 m, .int .i64 (lsum (m : Int) (fun i => pw (m : Int) (t i) K) k), .int .i64 (pw (m : Int) (t k) K)] w fun e w' => e = .returned (.int .i64 (lsum (m : Int) (fun i => pw (m : Int) (t i) K) (k + 1))) ∧ Below w.heap.size w w') := Lib.hid fun k w hk =>
    fdPlus_any (m : Int) _ _ w h (HSE.out k (by omega)).1 (HSE.out k (by omega)).2 (El.pw h (ht k hk) K).1 (El.pw h (ht k hk) K).2
  have HI : Hid (psum m t K = lsum (m : Int) (fun i => pw (m : Int) (t i) K) m) := Lib.hid rfl
  have H0 : Hid (lsum (m : Int) (fun i => pw (m : Int) (t i) K) 0 = 0) := Lib.hid rfl
  rw [HI.out]
  clear hv ht h hp hcl HI HSE
  generalize lsum (m : Int) (fun i => pw (m : Int) (t i) K) = S at *
  go_enter Try.func45, Try.ntmps45
  go_wp2_with fail
  go_loopw [7, 12] (fun vs vi wr => ∃ k : Nat, k ≤ m ∧ vi = .int .i64 k ∧ vs = .int .i64 (S k) ∧ Below w.heap.size w wr) (fun _ vi _ => m - (intOf vi).toNat)
  case atStart => exact ⟨0, Nat.zero_le _, rfl, by rw [H0.out], Below.refl _ _⟩
  case round =>
    obtain ⟨k, hk, rfl, rfl, hbw⟩ := hrel
    by_cases hlt : k < m
    · have hc0 := (hbw.cell (p := ⟨b, off + k, none⟩) hb).trans (HC.out k hlt)
      have HBW := Lib.hid hbw; clear hbw
      have H1 := Lib.hid (fun w => HPW.out k w hlt)
      have H2 := Lib.hid (fun w => HPL.out k w hlt)
      generalize hx : pw (m : Int) (t k) K = x at *
      generalize t k = y at *
      generalize S k = s at *
      generalize hs' : S (k + 1) = s' at *
      have HS' := Lib.hid hs'
      clear hx hs'
      go_wp2_with fail
      refine (H1.out _).mono ?_
      rintro e w1 ⟨rfl, hb1⟩
      have hz_hb1 := hb1.size; (try simp at hz_hb1)
      have HB1 := Lib.hid hb1; clear hb1
      go_wp2_with fail
      refine (H2.out _).mono ?_
      rintro e w2 ⟨rfl, hb2⟩
      have HB2 := Lib.hid hb2; clear hb2
      go_wp2
      go_roundw
      case rel => exact ⟨k + 1, by omega, by go_num, by rw [HS'.out], HBW.out.trans ((HB1.out.trans (HB2.out.mono hz_hb1)).mono HBW.out.size)⟩
      case measure => simp [intOf]; omega
    · obtain rfl : m = k := by omega
      have HBW := Lib.hid hbw; clear hbw
      go_wp2
      go_ret
      exact ⟨rfl, HBW.out⟩
set_option maxHeartbeats 2000000 in
theorem spec_PowerSumOf_yes (m K : Nat) (v : Value) (l : List Int) (w : World) (h : isSz (m : Int) = true) (hv : Sl w v l) (hg : good (m : Int) l = true) (hK : K ≤ 100) :
    Calls Try.prog 19 #[.int .i64 m, v, .int .i64 K] w fun e w' => e = .returned (.tuple #[.int .i64 (psum m (tabF (m : Int) (fun i => l.getD i 0) l.length) K), .bool true]) ∧ Below w.heap.size w w' := by
  have hq := isSz_le (m : Int) h
  have hlen := (good_parts hg).1
  have hp := plGood_any (m : Int) v l w hv (by omega)
  rw [h, hg] at hp
  have HP := Lib.hid hp
  have HV := Lib.hid (fun w' (hb : Below w.heap.size w w') => plValues_any (m : Int) v l w' h (hv.below hb (Nat.le_refl _)) hg)
  have HTE := Lib.hid (fun i (hi : i < m) => tab_el (k := l.length) h (all_el h (good_parts hg).2) i hi)
  simp only [Int.toNat_natCast] at HV
  have HI := Lib.hid (show ∀ w, Calls Try.prog 44 #[.int .i64 K, .int .i64 0, .int .i64 100] w fun e w' => e = .returned (.bool true) ∧ w = w' from fun w => by
    have h1 := l1In_any (K : Int) 0 100 w
    have h2 : (decide ((0 : Int) ≤ (K : Int)) && decide ((K : Int) ≤ 100)) = true := by simp; omega
    rw [h2] at h1
    exact h1)
  have HA := Lib.hid (fun v' w' (hs : Sl w' v' (fl (tabF (m : Int) (fun i => l.getD i 0) l.length) m)) => peSum_any m K v' (tabF (m : Int) (fun i => l.getD i 0) l.length) w' h hs HTE.out (by omega))
  clear hp hg hv h HTE
  generalize psum m (tabF (m : Int) (fun i => l.getD i 0) l.length) K = y at *
  generalize (tabF (m : Int) (fun i => l.getD i 0) l.length) = t at *
  go_enter Try.func19, Try.ntmps19
  go_wp2_with fail
  refine HP.out.mono ?_
  rintro e w1 ⟨rfl, hb1⟩
  have hz_hb1 := hb1.size; (try simp at hz_hb1)
  have HB1 := Lib.hid hb1; clear hb1
  go_wp2_with fail
  refine (HI.out _).mono ?_
  rintro e w2 ⟨rfl, rfl⟩
  have HB2 := HB1
  go_wp2_with fail
  refine (HV.out _ HB2.out).mono ?_
  rintro e w3 ⟨v3, rfl, hr3, hb3⟩
  have hz_hb3 := hb3.size; (try simp at hz_hb3)
  have HR3 := Lib.hid hr3; clear hr3
  have HB3 := Lib.hid hb3; clear hb3
  go_wp2_with fail
  refine (HA.out _ _ HR3.out.sl).mono ?_
  rintro e w4 ⟨rfl, hb4⟩
  have HB4 := Lib.hid hb4; clear hb4
  go_wp2
  go_ret2
  have hb1 := HB1.out
  have hb3 := HB3.out
  have hb4 := HB4.out
  exact ⟨rfl, by (repeat' (first | (with_reducible assumption) | (with_reducible exact Below.refl _ _) | (with_reducible refine below_drewN ?_ _) | (with_reducible refine Below.drew ?_) | (with_reducible refine Below.alloc ?_ ?_ _) | (with_reducible refine Below.setCell ?_ ?_ _) | (with_reducible refine Below.trans ?_ (Below.mono (by assumption) ?_)) | (with_reducible exact Nat.le_refl _) | (with_reducible assumption) | omega | (simp; omega) | (simp; done)))⟩
set_option maxHeartbeats 4000000 in
theorem impl_PowerSumOf_yes (m K : Nat) (v : Value) (l : List Int) (w : World) (h : isSz (m : Int) = true) (hv : Sl w v l) (hg : good (m : Int) l = true) (hK : K ≤ 100) :
    Calls Try.prog 20 #[.int .i64 m, v, .int .i64 K] w fun e w' => e = .returned (.tuple #[.int .i64 (psum m (tabF (m : Int) (fun i => l.getD i 0) l.length) K), .bool true]) ∧ Below w.heap.size w w' := by
  have hq := isSz_le (m : Int) h
  have hlen := (good_parts hg).1
  have hf := all_el h (good_parts hg).2
  have HP := Lib.hid (validPoly_yes (m : Int) v l w h hv hg)
  have HT := Lib.hid (fun (g1 : Nat) w' (hgl1 : g1 < w'.heap.size) (he1 : Els w' g1 (m : Int) (fun i => l.getD i 0) l.length) => tableM m g1 l.length l.length (fun i => l.getD i 0) w' h hgl1 he1 (fun i _ => hf i) (by omega))
  have HPS := Lib.hid (fun v w' (hs : Se w' v (m : Int) (tabF (m : Int) (fun i => l.getD i 0) l.length) m) => powerSumE m K v (tabF (m : Int) (fun i => l.getD i 0) l.length) w' h hs (fun i hi => tab_el h hf i hi) (by omega))
  have hyb := psum_el (k := K) h (fun i hi => tab_el (k := l.length) h hf i hi)
  have HN := Lib.hid (fun w => numberE (m : Int) (psum m (tabF (m : Int) (fun i => l.getD i 0) l.length) K) w h hyb.1 hyb.2)
  have hk0 : ¬ (K : Int) < 0 := by omega
  have hk1 : ¬ (100 : Int) < (K : Int) := by omega
  clear hg hv h hf hyb
  generalize psum m (tabF (m : Int) (fun i => l.getD i 0) l.length) K = y at *
  generalize (tabF (m : Int) (fun i => l.getD i 0) l.length) = t at *
  generalize (fun i => l.getD i 0) = f at *
  generalize l.length = n at *
  go_enter Try.func20, Try.ntmps20
  go_wp2_with fail
  refine HP.out.mono ?_
  rintro e w1 ⟨g1, rfl, hgg1, hk1', he1, hb1⟩
  have hgl1 := hk1'.lt
  have HE1 := Lib.hid he1; clear he1 hk1'
  have hz_hb1 := hb1.size; (try simp at hz_hb1)
  have HB1 := Lib.hid hb1; clear hb1
  go_wp2_with fail
  have HKEEP : Hid (∀ w', Below (w1.heap.size + 1) (w1.alloc (pblk (m : Int) (.slice (some ⟨g1, 0, none⟩) n n))) w' → w'.cell? ⟨w1.heap.size, 0, none⟩ = some (.int .i64 m) ∧ w'.cell? ⟨w1.heap.size, 1, none⟩ = some (.int .i64 (pr m)) ∧ w'.cell? ⟨w1.heap.size, 2, none⟩ = some (.int .i64 (pl m)) ∧ w'.cell? ⟨w1.heap.size, 3, none⟩ = some (.slice (some ⟨g1, 0, none⟩) n n)) := Lib.hid fun w' hb => by
    obtain ⟨x0, x1, x2, x3, _⟩ := cells4 ((hb.block _ (by omega)).trans (heap_alloc_new w1 (pblk (m : Int) (.slice (some ⟨g1, 0, none⟩) n n))))
    exact ⟨x0, x1, x2, x3⟩
  have HEW : Hid (∀ w', Below (w1.heap.size + 1) (w1.alloc (pblk (m : Int) (.slice (some ⟨g1, 0, none⟩) n n))) w' → Els w' g1 (m : Int) f n) := Lib.hid fun w' hb => HE1.out.below (B := w1.heap.size) (by (repeat' (first | (with_reducible assumption) | (with_reducible exact Below.refl _ _) | (with_reducible refine below_drewN ?_ _) | (with_reducible refine Below.drew ?_) | (with_reducible refine Below.alloc ?_ ?_ _) | (with_reducible refine Below.setCell ?_ ?_ _) | (with_reducible refine Below.trans ?_ (Below.mono (by assumption) ?_)) | (with_reducible exact Nat.le_refl _) | (with_reducible assumption) | omega | (simp; omega) | (simp; done)))) hgl1
  go_region_held3 (fun w' => w'.cell? ⟨w1.heap.size, 0, none⟩ = some (.int .i64 m) ∧ w'.cell? ⟨w1.heap.size, 1, none⟩ = some (.int .i64 (pr m)) ∧ w'.cell? ⟨w1.heap.size, 2, none⟩ = some (.int .i64 (pl m)) ∧ w'.cell? ⟨w1.heap.size, 3, none⟩ = some (.slice (some ⟨g1, 0, none⟩) n n))
    (exact HKEEP.out _ (by (try have hb2 := HB2.out); (try have hb3 := HB3.out); (try have hb4 := HB4.out); (repeat' (first | (with_reducible assumption) | (with_reducible exact Below.refl _ _) | (with_reducible refine below_drewN ?_ _) | (with_reducible refine Below.drew ?_) | (with_reducible refine Below.alloc ?_ ?_ _) | (with_reducible refine Below.setCell ?_ ?_ _) | (with_reducible refine Below.trans ?_ (Below.mono (by assumption) ?_)) | (with_reducible exact Nat.le_refl _) | (with_reducible assumption) | omega | (simp; omega) | (simp; done)))))
    (first
    | (go_at_call 42; refine (HT.out g1 _ (by simp; omega) (HEW.out _ (by (repeat' (first | (with_reducible assumption) | (with_reducible exact Below.refl _ _) | (with_reducible refine below_drewN ?_ _) | (with_reducible refine Below.drew ?_) | (with_reducible refine Below.alloc ?_ ?_ _) | (with_reducible refine Below.setCell ?_ ?_ _) | (with_reducible refine Below.trans ?_ (Below.mono (by assumption) ?_)) | (with_reducible exact Nat.le_refl _) | (with_reducible assumption) | omega | (simp; omega) | (simp; done)))))).mono ?_; rintro e w2 ⟨g2, rfl, hg2, hk2, he2, hb2⟩; have HSE2 : Hid (Se w2 (.slice (some ⟨g2, 0, none⟩) m m) (m : Int) t m) := Lib.hid ⟨g2, _, rfl, hk2.lt, he2⟩; clear hk2 he2; obtain ⟨hc2, hf2⟩ := bcell hb2; (try simp only [World.size_drew] at hc2 hf2); have hz2 := hb2.size; (try simp at hz2); have HB2 := Lib.hid hb2; clear hb2)
    | (go_at_call 46; refine (HPS.out _ _ HSE2.out).mono ?_; rintro e w3 ⟨rfl, hb3⟩; obtain ⟨hc3, hf3⟩ := bcell hb3; (try simp only [World.size_drew] at hc3 hf3); have hz3 := hb3.size; (try simp at hz3); have HB3 := Lib.hid hb3; clear hb3)
    | (go_at_call 47; refine (HN.out _).mono ?_; rintro e w4 ⟨rfl, hb4⟩; obtain ⟨hc4, hf4⟩ := bcell hb4; (try simp only [World.size_drew] at hc4 hf4); have hz4 := hb4.size; (try simp at hz4); have HB4 := Lib.hid hb4; clear hb4))
  all_goals
    go_wp2
    go_ret2
    have hb1 := HB1.out
    have hb2 := HB2.out
    have hb3 := HB3.out
    have hb4 := HB4.out
    exact ⟨rfl, by (repeat' (first | (with_reducible assumption) | (with_reducible exact Below.refl _ _) | (with_reducible refine below_drewN ?_ _) | (with_reducible refine Below.drew ?_) | (with_reducible refine Below.alloc ?_ ?_ _) | (with_reducible refine Below.setCell ?_ ?_ _) | (with_reducible refine Below.trans ?_ (Below.mono (by assumption) ?_)) | (with_reducible exact Nat.le_refl _) | (with_reducible assumption) | omega | (simp; omega) | (simp; done)))⟩
theorem key_PowerSumOf (q : Int) (l_f : List Int) (b_f : l_f.length ≤ 1048576) (k : Int) : ∃ (r : Int) (o : Bool), (∀ (w : World) (v_f : Value) (_ : Sl w v_f l_f), Calls Try.prog 19 #[.int .i64 q, v_f, .int .i64 k] w fun e w' => e = .returned (.tuple #[.int .i64 r, .bool o]) ∧ Below w.heap.size w w') ∧
      (∀ (w : World) (v_f : Value) (_ : Sl w v_f l_f), Calls Try.prog 20 #[.int .i64 q, v_f, .int .i64 k] w fun e w' => e = .returned (.tuple #[.int .i64 r, .bool o]) ∧ Below w.heap.size w w') := by
  cases h : (isSz q && good q l_f) && inK k with
  | false =>
    refine ⟨0, false, fun w v hv => spec_PowerSumOf_no q k v l_f w hv b_f h, fun w v hv => ?_⟩
    cases h1 : isSz q && good q l_f with
    | false => exact impl_PowerSumOf_no1 q k v l_f w hv b_f h1
    | true =>
      rw [h1] at h
      simp only [Bool.and_eq_true] at h1
      exact impl_PowerSumOf_no2 q k v l_f w h1.1 hv h1.2 h
  | true =>
    simp only [inK, Bool.and_eq_true, decide_eq_true_eq] at h
    have hq := isSz_le q h.1.1
    obtain ⟨m, rfl⟩ := Int.eq_ofNat_of_zero_le (show 0 ≤ q by omega)
    obtain ⟨K, rfl⟩ := Int.eq_ofNat_of_zero_le h.2.1
    exact ⟨_, true, fun w v hv => spec_PowerSumOf_yes m K v l_f w h.1.1 hv h.1.2 (by omega), fun w v hv => impl_PowerSumOf_yes m K v l_f w h.1.1 hv h.1.2 (by omega)⟩
set_option maxRecDepth 100000 in
set_option maxHeartbeats 4000000 in
/-- laws.FnExactPowerSumOf. -/
theorem walk_FnExactPowerSumOf (q : Int) (a_f : Option Addr) (n_f c_f : Nat) (z_f : List Int) (k : Int) (w : World) (_h_q : (Lit.int .i64 q).wf = true) (h_f : IsRow .i64 w a_f n_f c_f z_f) (_h_k : (Lit.int .i64 k).wf = true) :
    Calls Try.prog 5 #[.int .i64 q, .slice a_f n_f c_f, .int .i64 k] w fun e w' => e = .returned (.bool true) ∧ Below w.heap.size w w' := by
  clear _h_q
  clear _h_k
  obtain ⟨hs_f, hl_f, _⟩ := h_f.sl
  generalize z_f.take n_f = l_f at *
  clear h_f
  subst hl_f
  by_cases b_f : l_f.length ≤ 1048576
  rotate_left
  · have hn_f : (1048576 : Int) < (l_f.length : Int) := by omega
    go_enter Try.func5, Try.ntmps5
    go_wp2
    go_ret
    exact ⟨rfl, Below.refl _ _⟩
  have hn_f : ¬ (1048576 : Int) < (l_f.length : Int) := by omega
  obtain ⟨r, o, k1, k2⟩ := key_PowerSumOf q l_f b_f k
  have K1 := Lib.hid k1; clear k1
  have K2 := Lib.hid k2; clear k2
  have HS_f := Lib.hid hs_f; clear hs_f
  have HB0 : Hid (Below w.heap.size w w) := Lib.hid (Below.refl _ _)
  go_enter Try.func5, Try.ntmps5
  go_wp2_with fail
  refine (toIntS_any _ l_f _ (HS_f.out.below HB0.out (Nat.le_refl _)) b_f).mono ?_
  rintro e w1 ⟨v_s_f, rfl, hrw1, hbw1⟩
  have hzw1 : w.heap.size ≤ w1.heap.size := hbw1.size
  have HBw1 : Hid (Below w.heap.size w w1) := Lib.hid (HB0.out.trans (hbw1.mono HB0.out.size))
  have hww1 := HBw1.out.size
  clear hbw1 HB0
  have R_s_f_w1 := Lib.hid hrw1; clear hrw1
  have lt_s_f : Hid (∀ g, v_s_f.ownBlock = some g → w.heap.size ≤ g ∧ g < w1.heap.size) := Lib.hid R_s_f_w1.out.lt
  go_wp2_with fail
  refine (K1.out _ v_s_f R_s_f_w1.out.sl).mono ?_
  rintro e w2 ⟨rfl, hbw2⟩
  have hzw2 : w1.heap.size ≤ w2.heap.size := hbw2.size
  have R_s_f_w2 := Lib.hid (R_s_f_w1.out.below hbw2)
  clear R_s_f_w1
  have HBw2 : Hid (Below w.heap.size w w2) := Lib.hid (HBw1.out.trans (hbw2.mono HBw1.out.size))
  have hww2 := HBw2.out.size
  clear hbw2 HBw1
  clear R_s_f_w2 lt_s_f
  go_wp2_with fail
  refine (toIntS_any _ l_f _ (HS_f.out.below HBw2.out (Nat.le_refl _)) b_f).mono ?_
  rintro e w3 ⟨v_x_f, rfl, hrw3, hbw3⟩
  have hzw3 : w2.heap.size ≤ w3.heap.size := hbw3.size
  have HBw3 : Hid (Below w.heap.size w w3) := Lib.hid (HBw2.out.trans (hbw3.mono HBw2.out.size))
  have hww3 := HBw3.out.size
  clear hbw3 HBw2
  have R_x_f_w3 := Lib.hid hrw3; clear hrw3
  have lt_x_f : Hid (∀ g, v_x_f.ownBlock = some g → w2.heap.size ≤ g ∧ g < w3.heap.size) := Lib.hid R_x_f_w3.out.lt
  go_wp2_with fail
  refine (K2.out _ v_x_f R_x_f_w3.out.sl).mono ?_
  rintro e w4 ⟨rfl, hbw4⟩
  have hzw4 : w3.heap.size ≤ w4.heap.size := hbw4.size
  have R_x_f_w4 := Lib.hid (R_x_f_w3.out.below hbw4)
  clear R_x_f_w3
  have HBw4 : Hid (Below w.heap.size w w4) := Lib.hid (HBw3.out.trans (hbw4.mono HBw3.out.size))
  have hww4 := HBw4.out.size
  clear hbw4 HBw3
  go_wp2_with fail
  refine (toIntS_any _ l_f _ (HS_f.out.below HBw4.out (Nat.le_refl _)) b_f).mono ?_
  rintro e w5 ⟨v_y_f, rfl, hrw5, hbw5⟩
  have hzw5 : w4.heap.size ≤ w5.heap.size := hbw5.size
  have R_x_f_w5 := Lib.hid (R_x_f_w4.out.below hbw5)
  clear R_x_f_w4
  have HBw5 : Hid (Below w.heap.size w w5) := Lib.hid (HBw4.out.trans (hbw5.mono HBw4.out.size))
  have hww5 := HBw5.out.size
  clear hbw5 HBw4
  have R_y_f_w5 := Lib.hid hrw5; clear hrw5
  have lt_y_f : Hid (∀ g, v_y_f.ownBlock = some g → w4.heap.size ≤ g ∧ g < w5.heap.size) := Lib.hid R_y_f_w5.out.lt
  go_wp2_with fail
  refine (eq_same v_x_f v_y_f l_f _ _ _ R_x_f_w5.out R_y_f_w5.out (by omega)).mono ?_
  rintro e w6 ⟨rfl, hbw6⟩
  have hzw6 : w5.heap.size ≤ w6.heap.size := hbw6.size
  have R_x_f_w6 := Lib.hid (R_x_f_w5.out.below hbw6)
  clear R_x_f_w5
  have R_y_f_w6 := Lib.hid (R_y_f_w5.out.below hbw6)
  clear R_y_f_w5
  have HBw6 : Hid (Below w.heap.size w w6) := Lib.hid (HBw5.out.trans (hbw6.mono HBw5.out.size))
  have hww6 := HBw6.out.size
  clear hbw6 HBw5
  clear R_y_f_w6 lt_y_f
  go_wp2
  go_ret
  exact ⟨rfl, HBw6.out⟩
end Go.Proofs.Ytommagdddleoiaa
