/- GapOfBound, of both, by contracts; the walk of its law. -/
import Derived.Test.YtlhcokblbkiafabTU
import Derived.Test.YtlhcokblbkiafabTF
import Derived.Deep.RegionHeld3
namespace Go.Proofs.Ytlhcokblbkiafab
open Go.RowKit
theorem sq_bd {a : Int} (h0 : -16 ≤ a) (h1 : a ≤ 16) : 0 ≤ a * a ∧ a * a ≤ 256 := by
  have hc : a = -16 ∨ a = -15 ∨ a = -14 ∨ a = -13 ∨ a = -12 ∨ a = -11 ∨ a = -10 ∨ a = -9 ∨ a = -8 ∨ a = -7 ∨ a = -6 ∨ a = -5 ∨ a = -4 ∨ a = -3 ∨ a = -2 ∨ a = -1 ∨ a = 0 ∨ a = 1 ∨ a = 2 ∨ a = 3 ∨ a = 4 ∨ a = 5 ∨ a = 6 ∨ a = 7 ∨ a = 8 ∨ a = 9 ∨ a = 10 ∨ a = 11 ∨ a = 12 ∨ a = 13 ∨ a = 14 ∨ a = 15 ∨ a = 16 := by omega
  rcases hc with rfl | rfl | rfl | rfl | rfl | rfl | rfl | rfl | rfl | rfl | rfl | rfl | rfl | rfl | rfl | rfl | rfl | rfl | rfl | rfl | rfl | rfl | rfl | rfl | rfl | rfl | rfl | rfl | rfl | rfl | rfl | rfl | rfl <;> decide
theorem mul_bd {p k : Int} (p0 : 0 ≤ p) (p1 : p ≤ 256) (k0 : 0 ≤ k) (k1 : k ≤ 16) : 0 ≤ p * k ∧ p * k ≤ 4096 :=
  ⟨Int.mul_nonneg p0 k0, Int.le_trans (Int.mul_le_mul p1 k1 k0 (by omega)) (by omega)⟩
/-- The gap of the bound. -/
def gpb (m : Nat) (l : List Int) : Int := ((l.length : Int) - 1 - 1) * ((l.length : Int) - 1 - 1) * (m : Int) - chs m (tbo m l) * chs m (tbo m l)
def gok (q : Int) (l : List Int) : Bool := ota q l && (decide (2 ≤ l.length) && hns q l)
theorem gok_nat {q : Int} {l : List Int} (h : gok q l = true) : ∃ m : Nat, q = (m : Int) ∧ isSz (m : Int) = true ∧ (m : Int) % 2 = 1 ∧ good (m : Int) l = true ∧ 2 ≤ l.length ∧ hns (m : Int) l = true := by
  simp only [gok, Bool.and_eq_true, decide_eq_true_eq] at h
  obtain ⟨ho, h2, hn⟩ := h
  obtain ⟨m, rfl, hs, hm, hg⟩ := ota_nat ho
  exact ⟨m, rfl, hs, hm, hg, h2, hn⟩
set_option maxRecDepth 100000 in
set_option maxHeartbeats 4000000 in
/-- impl.poly.gapOfBound. -/
theorem gapOfBoundE (m g cap : Nat) (l : List Int) (w : World) (h : isSz (m : Int) = true) (hg : g < w.heap.size) (he : Els w g (m : Int) (cfs l) l.length) (hgd : good (m : Int) l = true) (h2 : 2 ≤ l.length) :
    Calls Try.prog 36 #[polyE (m : Int) (.slice (some ⟨g, 0, none⟩) l.length cap)] w fun e w' => e = .returned (.int .i64 (gpb m l)) ∧ Below w.heap.size w w' := by
  have hq := isSz_le (m : Int) h
  have hlen := (good_parts hgd).1
  have HS : Hid (∀ w', Below w.heap.size w w' → Calls Try.prog 61 #[polyE (m : Int) (.slice (some ⟨g, 0, none⟩) l.length cap)] w' fun e w'' => e = .returned (.int .i64 (chs m (tbo m l))) ∧ Below w'.heap.size w' w'') := Lib.hid fun w' hb => characterSumE m g l.length cap (cfs l) w' h (by have := hb.size; omega) (he.below hb hg) (good_el hgd) (by omega)
  have hdg : ∀ w, Calls Try.prog 35 #[polyE (m : Int) (.slice (some ⟨g, 0, none⟩) l.length cap)] w fun e w' => e = .returned (.int .i64 ((l.length : Int) - 1)) ∧ Below w.heap.size w w' := fun w => degreeE (m : Int) g l.length cap w (by omega)
  clear h he hgd
  have hbd := chs_bd m (tbo m l)
  unfold gpb
  generalize chs m (tbo m l) = s at *
  obtain ⟨d, hd⟩ : ∃ d : Int, (l.length : Int) - 1 = d := ⟨_, rfl⟩
  obtain ⟨a, ha⟩ : ∃ a : Int, d - 1 = a := ⟨_, rfl⟩
  rw [hd, ha]
  obtain ⟨p1, p2⟩ := sq_bd (a := a) (by omega) (by omega)
  obtain ⟨s1, s2⟩ := sq_bd (a := s) (by omega) (by omega)
  obtain ⟨P, hP⟩ : ∃ P, a * a = P := ⟨_, rfl⟩
  obtain ⟨S, hS⟩ : ∃ S, s * s = S := ⟨_, rfl⟩
  rw [hP] at p1 p2 ⊢
  rw [hS] at s1 s2 ⊢
  obtain ⟨q1, q2⟩ := mul_bd p1 p2 (k := (m : Int)) (by omega) (by omega)
  obtain ⟨Q, hQ⟩ : ∃ Q, P * (m : Int) = Q := ⟨_, rfl⟩
  rw [hQ] at q1 q2 ⊢
  have hwd : IntKind.i64.wrap ((l.length : Int) - 1) = d := by rw [hd]; exact IntWalk.i64_in _ (by omega)
  have hwa : IntKind.i64.wrap (d - 1) = a := by rw [ha]; exact IntWalk.i64_in _ (by omega)
  have hwP : IntKind.i64.wrap (a * a) = P := by rw [hP]; exact IntWalk.i64_in _ (by omega)
  have hwQ : IntKind.i64.wrap (P * (m : Int)) = Q := by rw [hQ]; exact IntWalk.i64_in _ (by omega)
  have hwS : IntKind.i64.wrap (s * s) = S := by rw [hS]; exact IntWalk.i64_in _ (by omega)
  have hwR : IntKind.i64.wrap (Q - S) = Q - S := IntWalk.i64_in _ (by omega)
  rw [hd] at hdg
  have HDEG := Lib.hid hdg
  clear hd ha hP hQ hS hdg hwd
  go_enter Try.func36, Try.ntmps36
  go_wp2_with fail
  have HKEEP : Hid (∀ w', Below (w.heap.size + 1) (w.alloc (pblk (m : Int) (.slice (some ⟨g, 0, none⟩) l.length cap))) w' → w'.cell? ⟨w.heap.size, 0, none⟩ = some (.int .i64 m) ∧ w'.cell? ⟨w.heap.size, 1, none⟩ = some (.int .i64 (pr m)) ∧ w'.cell? ⟨w.heap.size, 2, none⟩ = some (.int .i64 (pl m)) ∧ w'.cell? ⟨w.heap.size, 3, none⟩ = some (.slice (some ⟨g, 0, none⟩) l.length cap)) := Lib.hid fun w' hb => by
    obtain ⟨x0, x1, x2, x3, _⟩ := cells4 ((hb.block _ (by omega)).trans (heap_alloc_new w _))
    exact ⟨x0, x1, x2, x3⟩
  go_region_held3 (fun w' => w'.cell? ⟨w.heap.size, 0, none⟩ = some (.int .i64 m) ∧ w'.cell? ⟨w.heap.size, 1, none⟩ = some (.int .i64 (pr m)) ∧ w'.cell? ⟨w.heap.size, 2, none⟩ = some (.int .i64 (pl m)) ∧ w'.cell? ⟨w.heap.size, 3, none⟩ = some (.slice (some ⟨g, 0, none⟩) l.length cap))
    (exact HKEEP.out _ (by (try have hb3 := HB3.out); (try have hb4 := HB4.out); (repeat' (first | (with_reducible assumption) | (with_reducible exact Below.refl _ _) | (with_reducible refine below_drewN ?_ _) | (with_reducible refine Below.drew ?_) | (with_reducible refine Below.alloc ?_ ?_ _) | (with_reducible refine Below.setCell ?_ ?_ _) | (with_reducible refine Below.trans ?_ (Below.mono (by assumption) ?_)) | (with_reducible exact Nat.le_refl _) | (with_reducible assumption) | omega | (simp; omega) | (simp; done)))))
    (first
    | (go_at_call 35; refine (HDEG.out _).mono ?_; rintro e w3 ⟨rfl, hb3⟩; obtain ⟨hc3, hf3⟩ := bcell hb3; (try simp only [World.size_drew] at hc3 hf3); have hz3 := hb3.size; (try simp at hz3); have HB3 := Lib.hid hb3; clear hb3)
    | (go_at_call 61; refine (HS.out _ (by (try have hb3 := HB3.out); (repeat' (first | (with_reducible assumption) | (with_reducible exact Below.refl _ _) | (with_reducible refine below_drewN ?_ _) | (with_reducible refine Below.drew ?_) | (with_reducible refine Below.alloc ?_ ?_ _) | (with_reducible refine Below.setCell ?_ ?_ _) | (with_reducible refine Below.trans ?_ (Below.mono (by assumption) ?_)) | (with_reducible exact Nat.le_refl _) | (with_reducible assumption) | omega | (simp; omega) | (simp; done))))).mono ?_; rintro e w4 ⟨rfl, hb4⟩; obtain ⟨hc4, hf4⟩ := bcell hb4; (try simp only [World.size_drew] at hc4 hf4); have hz4 := hb4.size; (try simp at hz4); have HB4 := Lib.hid hb4; clear hb4))
  all_goals
    have hb4' : Below (w.heap.size + 1) (w.alloc (pblk (m : Int) (.slice (some ⟨g, 0, none⟩) l.length cap))) w4 := by have hb3 := HB3.out; have hb4 := HB4.out; (repeat' (first | (with_reducible assumption) | (with_reducible exact Below.refl _ _) | (with_reducible refine below_drewN ?_ _) | (with_reducible refine Below.drew ?_) | (with_reducible refine Below.alloc ?_ ?_ _) | (with_reducible refine Below.setCell ?_ ?_ _) | (with_reducible refine Below.trans ?_ (Below.mono (by assumption) ?_)) | (with_reducible exact Nat.le_refl _) | (with_reducible assumption) | omega | (simp; omega) | (simp; done)))
    obtain ⟨x0, x1, x2, x3⟩ := HKEEP.out w4 hb4'
    have HB4' : Hid (Below w.heap.size w w4) := Lib.hid (by (repeat' (first | (with_reducible assumption) | (with_reducible exact Below.refl _ _) | (with_reducible refine below_drewN ?_ _) | (with_reducible refine Below.drew ?_) | (with_reducible refine Below.alloc ?_ ?_ _) | (with_reducible refine Below.setCell ?_ ?_ _) | (with_reducible refine Below.trans ?_ (Below.mono (by assumption) ?_)) | (with_reducible exact Nat.le_refl _) | (with_reducible assumption) | omega | (simp; omega) | (simp; done))))
    clear hb4'
    go_wp2
    go_ret
    exact ⟨rfl, HB4'.out⟩
set_option maxRecDepth 100000 in
set_option maxHeartbeats 4000000 in
theorem spec_GapOfBound_yes (m : Nat) (v : Value) (l : List Int) (w : World) (h : isSz (m : Int) = true) (ho : (m : Int) % 2 = 1) (hv : Sl w v l) (hg : good (m : Int) l = true) (h2 : 2 ≤ l.length) (hn : hns (m : Int) l = true) :
    Calls Try.prog 18 #[.int .i64 m, v] w fun e w' => e = .returned (.tuple #[.int .i64 (gpb m l), .bool true]) ∧ Below w.heap.size w w' := by
  have hq := isSz_le (m : Int) h
  have hlen := (good_parts hg).1
  have hp := ctAsked_any (m : Int) v l w hv (by omega)
  rw [show ota (m : Int) l = true by simp [ota, odq, h, ho, hg]] at hp
  have HP := Lib.hid hp
  have hns' := fun w' (hb : Below w.heap.size w w') => ctNoSquare_any m v l w' h (hv.below hb (Nat.le_refl _)) (pg_good h hg)
  rw [hn] at hns'
  have HN := Lib.hid hns'
  have HS := Lib.hid (fun w' (hb : Below w.heap.size w w') => ctSum_any m v l w' h ho (hv.below hb (Nat.le_refl _)) hg)
  obtain ⟨av, cv, hf⟩ := hv.form
  clear h hg hv hp hns' hn ho
  have hbd := chs_bd m (tbo m l)
  unfold gpb
  generalize chs m (tbo m l) = s at *
  obtain ⟨d, hd⟩ : ∃ d : Int, (l.length : Int) - 1 = d := ⟨_, rfl⟩
  obtain ⟨a, ha⟩ : ∃ a : Int, d - 1 = a := ⟨_, rfl⟩
  rw [hd, ha]
  obtain ⟨p1, p2⟩ := sq_bd (a := a) (by omega) (by omega)
  obtain ⟨s1, s2⟩ := sq_bd (a := s) (by omega) (by omega)
  obtain ⟨P, hP⟩ : ∃ P, a * a = P := ⟨_, rfl⟩
  obtain ⟨S, hS⟩ : ∃ S, s * s = S := ⟨_, rfl⟩
  rw [hP] at p1 p2 ⊢
  rw [hS] at s1 s2 ⊢
  obtain ⟨q1, q2⟩ := mul_bd p1 p2 (k := (m : Int)) (by omega) (by omega)
  obtain ⟨Q, hQ⟩ : ∃ Q, P * (m : Int) = Q := ⟨_, rfl⟩
  rw [hQ] at q1 q2 ⊢
  have hwd : IntKind.i64.wrap ((l.length : Int) - 1) = d := by rw [hd]; exact IntWalk.i64_in _ (by omega)
  have hwa : IntKind.i64.wrap (d - 1) = a := by rw [ha]; exact IntWalk.i64_in _ (by omega)
  have hwP : IntKind.i64.wrap (a * a) = P := by rw [hP]; exact IntWalk.i64_in _ (by omega)
  have hwQ : IntKind.i64.wrap (P * (m : Int)) = Q := by rw [hQ]; exact IntWalk.i64_in _ (by omega)
  have hwS : IntKind.i64.wrap (s * s) = S := by rw [hS]; exact IntWalk.i64_in _ (by omega)
  have hwR : IntKind.i64.wrap (Q - S) = Q - S := IntWalk.i64_in _ (by omega)
  subst hf
  have hge : ¬ ((l.length : Int) < 2) := by omega
  clear hd ha hP hQ hS
  generalize l.length = n at *
  go_enter Try.func18, Try.ntmps18
  go_wp2_with fail
  refine HP.out.mono ?_
  rintro e w1 ⟨rfl, hb1⟩
  have hz1 := hb1.size
  have HB1 := Lib.hid hb1; clear hb1
  go_wp2_with fail
  refine (HN.out _ HB1.out).mono ?_
  rintro e w2 ⟨rfl, hb2⟩
  have HB2 : Hid (Below w.heap.size w w2) := Lib.hid (HB1.out.trans (hb2.mono hz1)); clear hb2
  have hz2 := HB2.out.size
  go_wp2_with fail
  refine (HS.out _ HB2.out).mono ?_
  rintro e w3 ⟨rfl, hb3⟩
  have HB3 : Hid (Below w.heap.size w w3) := Lib.hid (HB2.out.trans (hb3.mono hz2)); clear hb3
  go_wp2
  go_ret2
  exact ⟨rfl, HB3.out⟩
set_option maxRecDepth 100000 in
set_option maxHeartbeats 4000000 in
theorem spec_GapOfBound_no (q : Int) (v : Value) (l : List Int) (w : World) (hv : Sl w v l) (hl : l.length ≤ 1048576) (hn : gok q l = false) :
    Calls Try.prog 18 #[.int .i64 q, v] w fun e w' => e = .returned (.tuple #[.int .i64 0, .bool false]) ∧ Below w.heap.size w w' := by
  have HP := Lib.hid (ctAsked_any q v l w hv hl)
  cases ho : ota q l with
  | false =>
    rw [ho] at HP
    clear hv hl hn ho
    go_enter Try.func18, Try.ntmps18
    go_wp2_with fail
    refine HP.out.mono ?_
    rintro e w1 ⟨rfl, hb1⟩
    go_wp2
    go_ret2
    exact ⟨rfl, hb1⟩
  | true =>
    rw [ho] at HP
    obtain ⟨m, rfl, hs, hm, hg⟩ := ota_nat ho
    have hq := isSz_le (m : Int) hs
    have hlen := (good_parts hg).1
    by_cases h2 : 2 ≤ l.length
    · have hns0 : hns (m : Int) l = false := by
        unfold gok at hn
        rw [ho, decide_eq_true h2, Bool.true_and, Bool.true_and] at hn
        exact hn
      have hns' := fun w' (hb : Below w.heap.size w w') => ctNoSquare_any m v l w' hs (hv.below hb (Nat.le_refl _)) (pg_good hs hg)
      rw [hns0] at hns'
      have HN := Lib.hid hns'
      obtain ⟨av, cv, hf⟩ := hv.form
      subst hf
      have hge : ¬ ((l.length : Int) < 2) := by omega
      clear hv hl hn ho hs hm hg h2 hns0 hns'
      generalize l.length = n at *
      go_enter Try.func18, Try.ntmps18
      go_wp2_with fail
      refine HP.out.mono ?_
      rintro e w1 ⟨rfl, hb1⟩
      have hz1 := hb1.size
      have HB1 := Lib.hid hb1; clear hb1
      go_wp2_with fail
      refine (HN.out _ HB1.out).mono ?_
      rintro e w2 ⟨rfl, hb2⟩
      have HB2 : Hid (Below w.heap.size w w2) := Lib.hid (HB1.out.trans (hb2.mono hz1)); clear hb2
      go_wp2
      go_ret2
      exact ⟨rfl, HB2.out⟩
    · obtain ⟨av, cv, hf⟩ := hv.form
      subst hf
      have hge : ((l.length : Int) < 2) := by omega
      clear hv hl hn ho hs hm hg h2
      generalize l.length = n at *
      go_enter Try.func18, Try.ntmps18
      go_wp2_with fail
      refine HP.out.mono ?_
      rintro e w1 ⟨rfl, hb1⟩
      go_wp2
      go_ret2
      exact ⟨rfl, hb1⟩
set_option maxRecDepth 100000 in
set_option maxHeartbeats 4000000 in
theorem impl_GapOfBound_no1 (q : Int) (v : Value) (l : List Int) (w : World) (hv : Sl w v l) (hl : l.length ≤ 1048576) (hn : ota q l = false) :
    Calls Try.prog 19 #[.int .i64 q, v] w fun e w' => e = .returned (.tuple #[.int .i64 0, .bool false]) ∧ Below w.heap.size w w' := by
  have HP := Lib.hid (validOddPoly_no q v l w hv hl hn)
  clear hv hl hn
  go_enter Try.func19, Try.ntmps19
  go_wp2_with fail
  refine HP.out.mono ?_
  rintro e w1 ⟨rfl, hb1⟩
  have hz1 := hb1.size
  have HB1 := Lib.hid hb1; clear hb1
  go_wp2
  go_ret2
  have hb1 := HB1.out
  exact ⟨rfl, by (repeat' (first | (with_reducible assumption) | (with_reducible exact Below.refl _ _) | (with_reducible refine below_drewN ?_ _) | (with_reducible refine Below.drew ?_) | (with_reducible refine Below.alloc ?_ ?_ _) | (with_reducible refine Below.setCell ?_ ?_ _) | (with_reducible refine Below.trans ?_ (Below.mono (by assumption) ?_)) | (with_reducible exact Nat.le_refl _) | (with_reducible assumption) | omega | (simp; omega) | (simp; done)))⟩
set_option maxRecDepth 100000 in
set_option maxHeartbeats 4000000 in
theorem impl_GapOfBound_no2 (m : Nat) (v : Value) (l : List Int) (w : World) (h : isSz (m : Int) = true) (ho : (m : Int) % 2 = 1) (hv : Sl w v l) (hg : good (m : Int) l = true) (h2 : ¬ 2 ≤ l.length) :
    Calls Try.prog 19 #[.int .i64 m, v] w fun e w' => e = .returned (.tuple #[.int .i64 0, .bool false]) ∧ Below w.heap.size w w' := by
  have hq := isSz_le (m : Int) h
  have hlen := (good_parts hg).1
  have HP : Hid (Calls Try.prog 34 #[.int .i64 m, v] w fun e w' => ∃ g, e = .returned (.tuple #[polyE (m : Int) (.slice (some ⟨g, 0, none⟩) l.length l.length), .bool true]) ∧ g < w'.heap.size ∧ Els w' g (m : Int) (cfs l) l.length ∧ Below w.heap.size w w') := Lib.hid (validOddPoly_yes m v l w h ho hv hg)
  have hdg : ∀ g w, Calls Try.prog 35 #[polyE (m : Int) (.slice (some ⟨g, 0, none⟩) l.length l.length)] w fun e w' => e = .returned (.int .i64 ((l.length : Int) - 1)) ∧ Below w.heap.size w w' := fun g w => degreeE (m : Int) g l.length l.length w (by omega)
  obtain ⟨d, hd⟩ : ∃ d : Int, (l.length : Int) - 1 = d := ⟨_, rfl⟩
  rw [hd] at hdg
  have HDEG := Lib.hid hdg
  have hge : d < 1 := by omega
  clear h ho hv hg h2 hd hdg
  generalize cfs l = f at *
  generalize l.length = n at *
  go_enter Try.func19, Try.ntmps19
  go_wp2_with fail
  refine HP.out.mono ?_
  rintro e w1 ⟨g, rfl, hgl, he1, hb1⟩
  have HE := Lib.hid he1
  have HB1 := Lib.hid hb1; clear hb1 he1
  have HPB : Hid ((w1.alloc (pblk (m : Int) (.slice (some ⟨g, 0, none⟩) n n))).heap[w1.heap.size]? = some (pblk (m : Int) (.slice (some ⟨g, 0, none⟩) n n))) := Lib.hid (heap_alloc_new w1 _)
  go_wp2_with fail
  refine (HDEG.out g _).mono ?_
  rintro e w2 ⟨rfl, hb2⟩
  have hz2 := hb2.size
  simp at hz2
  obtain ⟨x0, x1, x2, x3, xf, xl⟩ := cells4 ((hb2.block w1.heap.size (by simp)).trans HPB.out)
  have HB2 : Hid (Below (w1.heap.size + 1) (w1.alloc (pblk (m : Int) (.slice (some ⟨g, 0, none⟩) n n))) w2) := Lib.hid (by (repeat' (first | (with_reducible assumption) | (with_reducible exact Below.refl _ _) | (with_reducible refine below_drewN ?_ _) | (with_reducible refine Below.drew ?_) | (with_reducible refine Below.alloc ?_ ?_ _) | (with_reducible refine Below.setCell ?_ ?_ _) | (with_reducible refine Below.trans ?_ (Below.mono (by assumption) ?_)) | (with_reducible exact Nat.le_refl _) | (with_reducible assumption) | omega | (simp; omega) | (simp; done)))); clear hb2
  go_wp2
  go_ret2
  have hb1 := HB1.out
  have hz1 := hb1.size
  have hb2 := HB2.out
  exact ⟨rfl, by (repeat' (first | (with_reducible assumption) | (with_reducible exact Below.refl _ _) | (with_reducible refine below_drewN ?_ _) | (with_reducible refine Below.drew ?_) | (with_reducible refine Below.alloc ?_ ?_ _) | (with_reducible refine Below.setCell ?_ ?_ _) | (with_reducible refine Below.trans ?_ (Below.mono (by assumption) ?_)) | (with_reducible exact Nat.le_refl _) | (with_reducible assumption) | omega | (simp; omega) | (simp; done)))⟩
set_option maxRecDepth 100000 in
set_option maxHeartbeats 4000000 in
theorem impl_GapOfBound_no3 (m : Nat) (v : Value) (l : List Int) (w : World) (h : isSz (m : Int) = true) (ho : (m : Int) % 2 = 1) (hv : Sl w v l) (hg : good (m : Int) l = true) (h2 : 2 ≤ l.length) (hn : hns (m : Int) l = false) :
    Calls Try.prog 19 #[.int .i64 m, v] w fun e w' => e = .returned (.tuple #[.int .i64 0, .bool false]) ∧ Below w.heap.size w w' := by
  have hq := isSz_le (m : Int) h
  have hlen := (good_parts hg).1
  have HP : Hid (Calls Try.prog 34 #[.int .i64 m, v] w fun e w' => ∃ g, e = .returned (.tuple #[polyE (m : Int) (.slice (some ⟨g, 0, none⟩) l.length l.length), .bool true]) ∧ g < w'.heap.size ∧ Els w' g (m : Int) (cfs l) l.length ∧ Below w.heap.size w w') := Lib.hid (validOddPoly_yes m v l w h ho hv hg)
  have hdg : ∀ g w, Calls Try.prog 35 #[polyE (m : Int) (.slice (some ⟨g, 0, none⟩) l.length l.length)] w fun e w' => e = .returned (.int .i64 ((l.length : Int) - 1)) ∧ Below w.heap.size w w' := fun g w => degreeE (m : Int) g l.length l.length w (by omega)
  obtain ⟨d, hd⟩ : ∃ d : Int, (l.length : Int) - 1 = d := ⟨_, rfl⟩
  rw [hd] at hdg
  have HDEG := Lib.hid hdg
  have hnsq := fun g w' (hg1 : g < w'.heap.size) (he : Els w' g (m : Int) (cfs l) l.length) => hasNoSquareE m g l.length l w' h hg1 he (pg_good h hg)
  rw [hn] at hnsq
  have HN := Lib.hid hnsq
  have hge : ¬ d < 1 := by omega
  clear h ho hv hg h2 hd hdg hnsq hn
  generalize cfs l = f at *
  generalize l.length = n at *
  go_enter Try.func19, Try.ntmps19
  go_wp2_with fail
  refine HP.out.mono ?_
  rintro e w1 ⟨g, rfl, hgl, he1, hb1⟩
  have HE := Lib.hid he1
  have HB1 := Lib.hid hb1; clear hb1 he1
  have HPB : Hid ((w1.alloc (pblk (m : Int) (.slice (some ⟨g, 0, none⟩) n n))).heap[w1.heap.size]? = some (pblk (m : Int) (.slice (some ⟨g, 0, none⟩) n n))) := Lib.hid (heap_alloc_new w1 _)
  go_wp2_with fail
  refine (HDEG.out g _).mono ?_
  rintro e w2 ⟨rfl, hb2⟩
  have hz2 := hb2.size
  simp at hz2
  obtain ⟨x0, x1, x2, x3, xf, xl⟩ := cells4 ((hb2.block w1.heap.size (by simp)).trans HPB.out)
  have HB2 : Hid (Below (w1.heap.size + 1) (w1.alloc (pblk (m : Int) (.slice (some ⟨g, 0, none⟩) n n))) w2) := Lib.hid (by (repeat' (first | (with_reducible assumption) | (with_reducible exact Below.refl _ _) | (with_reducible refine below_drewN ?_ _) | (with_reducible refine Below.drew ?_) | (with_reducible refine Below.alloc ?_ ?_ _) | (with_reducible refine Below.setCell ?_ ?_ _) | (with_reducible refine Below.trans ?_ (Below.mono (by assumption) ?_)) | (with_reducible exact Nat.le_refl _) | (with_reducible assumption) | omega | (simp; omega) | (simp; done)))); clear hb2
  go_wp2_with fail
  refine (HN.out g _ (by omega) (HE.out.below (B := w1.heap.size) (by have hb2 := HB2.out; (repeat' (first | (with_reducible assumption) | (with_reducible exact Below.refl _ _) | (with_reducible refine below_drewN ?_ _) | (with_reducible refine Below.drew ?_) | (with_reducible refine Below.alloc ?_ ?_ _) | (with_reducible refine Below.setCell ?_ ?_ _) | (with_reducible refine Below.trans ?_ (Below.mono (by assumption) ?_)) | (with_reducible exact Nat.le_refl _) | (with_reducible assumption) | omega | (simp; omega) | (simp; done)))) hgl)).mono ?_
  rintro e w3 ⟨rfl, hb3⟩
  have hz3 := hb3.size
  clear x0 x1 x2 x3 xf xl
  have HB3 : Hid (Below (w1.heap.size + 1) (w1.alloc (pblk (m : Int) (.slice (some ⟨g, 0, none⟩) n n))) w3) := Lib.hid (HB2.out.trans (hb3.mono (by omega))); clear hb3
  obtain ⟨x0, x1, x2, x3, xf, xl⟩ := cells4 ((HB3.out.block w1.heap.size (by omega)).trans HPB.out)
  go_wp2
  go_ret2
  have hb1 := HB1.out
  have hz1 := hb1.size
  have hb3 := HB3.out
  exact ⟨rfl, by (repeat' (first | (with_reducible assumption) | (with_reducible exact Below.refl _ _) | (with_reducible refine below_drewN ?_ _) | (with_reducible refine Below.drew ?_) | (with_reducible refine Below.alloc ?_ ?_ _) | (with_reducible refine Below.setCell ?_ ?_ _) | (with_reducible refine Below.trans ?_ (Below.mono (by assumption) ?_)) | (with_reducible exact Nat.le_refl _) | (with_reducible assumption) | omega | (simp; omega) | (simp; done)))⟩
theorem impl_GapOfBound_no (q : Int) (v : Value) (l : List Int) (w : World) (hv : Sl w v l) (hl : l.length ≤ 1048576) (hn : gok q l = false) :
    Calls Try.prog 19 #[.int .i64 q, v] w fun e w' => e = .returned (.tuple #[.int .i64 0, .bool false]) ∧ Below w.heap.size w w' := by
  cases ho : ota q l with
  | false => exact impl_GapOfBound_no1 q v l w hv hl ho
  | true =>
    obtain ⟨m, rfl, hs, hm, hg⟩ := ota_nat ho
    by_cases h2 : 2 ≤ l.length
    · unfold gok at hn
      rw [ho, decide_eq_true h2, Bool.true_and, Bool.true_and] at hn
      exact impl_GapOfBound_no3 m v l w hs hm hv hg h2 hn
    · exact impl_GapOfBound_no2 m v l w hs hm hv hg h2
set_option maxRecDepth 100000 in
set_option maxHeartbeats 4000000 in
theorem impl_GapOfBound_yes (m : Nat) (v : Value) (l : List Int) (w : World) (h : isSz (m : Int) = true) (ho : (m : Int) % 2 = 1) (hv : Sl w v l) (hg : good (m : Int) l = true) (h2 : 2 ≤ l.length) (hn : hns (m : Int) l = true) :
    Calls Try.prog 19 #[.int .i64 m, v] w fun e w' => e = .returned (.tuple #[.int .i64 (gpb m l), .bool true]) ∧ Below w.heap.size w w' := by
  have hq := isSz_le (m : Int) h
  have hlen := (good_parts hg).1
  have HP : Hid (Calls Try.prog 34 #[.int .i64 m, v] w fun e w' => ∃ g, e = .returned (.tuple #[polyE (m : Int) (.slice (some ⟨g, 0, none⟩) l.length l.length), .bool true]) ∧ g < w'.heap.size ∧ Els w' g (m : Int) (cfs l) l.length ∧ Below w.heap.size w w') := Lib.hid (validOddPoly_yes m v l w h ho hv hg)
  have hdg : ∀ g w, Calls Try.prog 35 #[polyE (m : Int) (.slice (some ⟨g, 0, none⟩) l.length l.length)] w fun e w' => e = .returned (.int .i64 ((l.length : Int) - 1)) ∧ Below w.heap.size w w' := fun g w => degreeE (m : Int) g l.length l.length w (by omega)
  obtain ⟨d, hd⟩ : ∃ d : Int, (l.length : Int) - 1 = d := ⟨_, rfl⟩
  rw [hd] at hdg
  have HDEG := Lib.hid hdg
  have hnsq := fun g w' (hg1 : g < w'.heap.size) (he : Els w' g (m : Int) (cfs l) l.length) => hasNoSquareE m g l.length l w' h hg1 he (pg_good h hg)
  rw [hn] at hnsq
  have HN := Lib.hid hnsq
  have HGP := Lib.hid (fun g w' (hg1 : g < w'.heap.size) (he : Els w' g (m : Int) (cfs l) l.length) => gapOfBoundE m g l.length l w' h hg1 he hg h2)
  have hge : ¬ d < 1 := by omega
  clear h ho hv hg h2 hd hdg hnsq hn
  generalize gpb m l = r at *
  generalize cfs l = f at *
  generalize l.length = n at *
  go_enter Try.func19, Try.ntmps19
  go_wp2_with fail
  refine HP.out.mono ?_
  rintro e w1 ⟨g, rfl, hgl, he1, hb1⟩
  have HE := Lib.hid he1
  have HB1 := Lib.hid hb1; clear hb1 he1
  have HPB : Hid ((w1.alloc (pblk (m : Int) (.slice (some ⟨g, 0, none⟩) n n))).heap[w1.heap.size]? = some (pblk (m : Int) (.slice (some ⟨g, 0, none⟩) n n))) := Lib.hid (heap_alloc_new w1 _)
  go_wp2_with fail
  refine (HDEG.out g _).mono ?_
  rintro e w2 ⟨rfl, hb2⟩
  have hz2 := hb2.size
  simp at hz2
  obtain ⟨x0, x1, x2, x3, xf, xl⟩ := cells4 ((hb2.block w1.heap.size (by simp)).trans HPB.out)
  have HB2 : Hid (Below (w1.heap.size + 1) (w1.alloc (pblk (m : Int) (.slice (some ⟨g, 0, none⟩) n n))) w2) := Lib.hid (by (repeat' (first | (with_reducible assumption) | (with_reducible exact Below.refl _ _) | (with_reducible refine below_drewN ?_ _) | (with_reducible refine Below.drew ?_) | (with_reducible refine Below.alloc ?_ ?_ _) | (with_reducible refine Below.setCell ?_ ?_ _) | (with_reducible refine Below.trans ?_ (Below.mono (by assumption) ?_)) | (with_reducible exact Nat.le_refl _) | (with_reducible assumption) | omega | (simp; omega) | (simp; done)))); clear hb2
  go_wp2_with fail
  refine (HN.out g _ (by omega) (HE.out.below (B := w1.heap.size) (by have hb2 := HB2.out; (repeat' (first | (with_reducible assumption) | (with_reducible exact Below.refl _ _) | (with_reducible refine below_drewN ?_ _) | (with_reducible refine Below.drew ?_) | (with_reducible refine Below.alloc ?_ ?_ _) | (with_reducible refine Below.setCell ?_ ?_ _) | (with_reducible refine Below.trans ?_ (Below.mono (by assumption) ?_)) | (with_reducible exact Nat.le_refl _) | (with_reducible assumption) | omega | (simp; omega) | (simp; done)))) hgl)).mono ?_
  rintro e w3 ⟨rfl, hb3⟩
  have hz3 := hb3.size
  clear x0 x1 x2 x3 xf xl
  have HB3 : Hid (Below (w1.heap.size + 1) (w1.alloc (pblk (m : Int) (.slice (some ⟨g, 0, none⟩) n n))) w3) := Lib.hid (HB2.out.trans (hb3.mono (by omega))); clear hb3
  obtain ⟨x0, x1, x2, x3, xf, xl⟩ := cells4 ((HB3.out.block w1.heap.size (by omega)).trans HPB.out)
  go_wp2_with fail
  refine (HGP.out g _ (by omega) (HE.out.below (B := w1.heap.size) (by have hb3 := HB3.out; (repeat' (first | (with_reducible assumption) | (with_reducible exact Below.refl _ _) | (with_reducible refine below_drewN ?_ _) | (with_reducible refine Below.drew ?_) | (with_reducible refine Below.alloc ?_ ?_ _) | (with_reducible refine Below.setCell ?_ ?_ _) | (with_reducible refine Below.trans ?_ (Below.mono (by assumption) ?_)) | (with_reducible exact Nat.le_refl _) | (with_reducible assumption) | omega | (simp; omega) | (simp; done)))) hgl)).mono ?_
  rintro e w4 ⟨rfl, hb4⟩
  have HB4 := Lib.hid hb4; clear hb4
  go_wp2
  go_ret2
  have hb1 := HB1.out
  have hz1 := hb1.size
  have hb3 := HB3.out
  have hb4 := HB4.out
  exact ⟨rfl, by (repeat' (first | (with_reducible assumption) | (with_reducible exact Below.refl _ _) | (with_reducible refine below_drewN ?_ _) | (with_reducible refine Below.drew ?_) | (with_reducible refine Below.alloc ?_ ?_ _) | (with_reducible refine Below.setCell ?_ ?_ _) | (with_reducible refine Below.trans ?_ (Below.mono (by assumption) ?_)) | (with_reducible exact Nat.le_refl _) | (with_reducible assumption) | omega | (simp; omega) | (simp; done)))⟩
theorem key_GapOfBound (q : Int) (l_f : List Int) (b_f : l_f.length ≤ 1048576) : ∃ (r : Int) (o : Bool), (∀ (w : World) (v_f : Value) (_ : Sl w v_f l_f), Calls Try.prog 18 #[.int .i64 q, v_f] w fun e w' => e = .returned (.tuple #[.int .i64 r, .bool o]) ∧ Below w.heap.size w w') ∧
      (∀ (w : World) (v_f : Value) (_ : Sl w v_f l_f), Calls Try.prog 19 #[.int .i64 q, v_f] w fun e w' => e = .returned (.tuple #[.int .i64 r, .bool o]) ∧ Below w.heap.size w w') := by
  cases h : gok q l_f with
  | false => exact ⟨0, false, fun w v hv => spec_GapOfBound_no q v l_f w hv b_f h, fun w v hv => impl_GapOfBound_no q v l_f w hv b_f h⟩
  | true =>
    obtain ⟨m, rfl, hs, ho, hg, h2, hn⟩ := gok_nat h
    exact ⟨_, true, fun w v hv => spec_GapOfBound_yes m v l_f w hs ho hv hg h2 hn, fun w v hv => impl_GapOfBound_yes m v l_f w hs ho hv hg h2 hn⟩
set_option maxRecDepth 100000 in
set_option maxHeartbeats 4000000 in
/-- laws.FnExactGapOfBound. -/
theorem walk_FnExactGapOfBound (q : Int) (a_f : Option Addr) (n_f c_f : Nat) (z_f : List Int) (w : World) (_h_q : (Lit.int .i64 q).wf = true) (h_f : IsRow .i64 w a_f n_f c_f z_f) :
    Calls Try.prog 6 #[.int .i64 q, .slice a_f n_f c_f] w fun e w' => e = .returned (.bool true) ∧ Below w.heap.size w w' := by
  clear _h_q
  obtain ⟨hs_f, hl_f, _⟩ := h_f.sl
  generalize z_f.take n_f = l_f at *
  clear h_f
  subst hl_f
  by_cases b_f : l_f.length ≤ 1048576
  rotate_left
  · have hn_f : (1048576 : Int) < (l_f.length : Int) := by omega
    go_enter Try.func6, Try.ntmps6
    go_wp2
    go_ret
    exact ⟨rfl, Below.refl _ _⟩
  have hn_f : ¬ (1048576 : Int) < (l_f.length : Int) := by omega
  obtain ⟨r, o, k1, k2⟩ := key_GapOfBound q l_f b_f
  have K1 := Lib.hid k1; clear k1
  have K2 := Lib.hid k2; clear k2
  have HS_f := Lib.hid hs_f; clear hs_f
  have HB0 : Hid (Below w.heap.size w w) := Lib.hid (Below.refl _ _)
  go_enter Try.func6, Try.ntmps6
  go_wp2_with fail
  refine (toIntS_any _ l_f _ (HS_f.out.below HB0.out (Nat.le_refl _)) b_f).mono ?_
  rintro e w1 ⟨v_s_f, rfl, hrw1, hbw1⟩
  have hzw1 : w.heap.size ≤ w1.heap.size := hbw1.size
  have HBw1 : Hid (Below w.heap.size w w1) := Lib.hid (HB0.out.trans (hbw1.mono HB0.out.size))
  have hww1 := HBw1.out.size
  clear hbw1 HB0
  have R_s_f_w1 := Lib.hid hrw1; clear hrw1
  have lt_s_f : Hid (∀ g, v_s_f.ownBlock = some g → w.heap.size ≤ g ∧ g < w1.heap.size) := Lib.hid R_s_f_w1.out.lt
  go_wp2_with fail
  refine (K1.out _ v_s_f R_s_f_w1.out.sl).mono ?_
  rintro e w2 ⟨rfl, hbw2⟩
  have hzw2 : w1.heap.size ≤ w2.heap.size := hbw2.size
  have R_s_f_w2 := Lib.hid (R_s_f_w1.out.below hbw2)
  clear R_s_f_w1
  have HBw2 : Hid (Below w.heap.size w w2) := Lib.hid (HBw1.out.trans (hbw2.mono HBw1.out.size))
  have hww2 := HBw2.out.size
  clear hbw2 HBw1
  clear R_s_f_w2 lt_s_f
  go_wp2_with fail
  refine (toIntS_any _ l_f _ (HS_f.out.below HBw2.out (Nat.le_refl _)) b_f).mono ?_
  rintro e w3 ⟨v_x_f, rfl, hrw3, hbw3⟩
  have hzw3 : w2.heap.size ≤ w3.heap.size := hbw3.size
  have HBw3 : Hid (Below w.heap.size w w3) := Lib.hid (HBw2.out.trans (hbw3.mono HBw2.out.size))
  have hww3 := HBw3.out.size
  clear hbw3 HBw2
  have R_x_f_w3 := Lib.hid hrw3; clear hrw3
  have lt_x_f : Hid (∀ g, v_x_f.ownBlock = some g → w2.heap.size ≤ g ∧ g < w3.heap.size) := Lib.hid R_x_f_w3.out.lt
  go_wp2_with fail
  refine (K2.out _ v_x_f R_x_f_w3.out.sl).mono ?_
  rintro e w4 ⟨rfl, hbw4⟩
  have hzw4 : w3.heap.size ≤ w4.heap.size := hbw4.size
  have R_x_f_w4 := Lib.hid (R_x_f_w3.out.below hbw4)
  clear R_x_f_w3
  have HBw4 : Hid (Below w.heap.size w w4) := Lib.hid (HBw3.out.trans (hbw4.mono HBw3.out.size))
  have hww4 := HBw4.out.size
  clear hbw4 HBw3
  go_wp2_with fail
  refine (toIntS_any _ l_f _ (HS_f.out.below HBw4.out (Nat.le_refl _)) b_f).mono ?_
  rintro e w5 ⟨v_y_f, rfl, hrw5, hbw5⟩
  have hzw5 : w4.heap.size ≤ w5.heap.size := hbw5.size
  have R_x_f_w5 := Lib.hid (R_x_f_w4.out.below hbw5)
  clear R_x_f_w4
  have HBw5 : Hid (Below w.heap.size w w5) := Lib.hid (HBw4.out.trans (hbw5.mono HBw4.out.size))
  have hww5 := HBw5.out.size
  clear hbw5 HBw4
  have R_y_f_w5 := Lib.hid hrw5; clear hrw5
  have lt_y_f : Hid (∀ g, v_y_f.ownBlock = some g → w4.heap.size ≤ g ∧ g < w5.heap.size) := Lib.hid R_y_f_w5.out.lt
  go_wp2_with fail
  refine (eq_same v_x_f v_y_f l_f _ _ _ R_x_f_w5.out R_y_f_w5.out (by omega)).mono ?_
  rintro e w6 ⟨rfl, hbw6⟩
  have hzw6 : w5.heap.size ≤ w6.heap.size := hbw6.size
  have R_x_f_w6 := Lib.hid (R_x_f_w5.out.below hbw6)
  clear R_x_f_w5
  have R_y_f_w6 := Lib.hid (R_y_f_w5.out.below hbw6)
  clear R_y_f_w5
  have HBw6 : Hid (Below w.heap.size w w6) := Lib.hid (HBw5.out.trans (hbw6.mono HBw5.out.size))
  have hww6 := HBw6.out.size
  clear hbw6 HBw5
  clear R_y_f_w6 lt_y_f
  go_wp2
  go_ret
  exact ⟨rfl, HBw6.out⟩
end Go.Proofs.Ytlhcokblbkiafab
