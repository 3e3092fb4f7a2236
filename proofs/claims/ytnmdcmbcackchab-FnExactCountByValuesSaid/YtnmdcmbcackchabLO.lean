/- Normal polynomials, of both, by contracts; the walk of the law of IsNormal. -/
import Derived.Test.YtnmdcmbcackchabKG
import Derived.Test.YtnmdcmbcackchabLC
import Derived.Deep.RegionHeld3
namespace Go.Proofs.Ytnmdcmbcackchab
open Go.RowKit
/-- Whether a list is a normal polynomial. -/
def nrm (m : Nat) (f : Nat → Int) (n : Nat) : Bool :=
  if n < 2 then false else if f (n - 1) ≠ 1 then false else if f 0 ≠ 0 then false else if ((n - 1 : Nat) : Int) % pr m = 0 then true else if n = 2 then true else decide (f (n - 2) = 0)
theorem nrm_short {m n : Nat} {f : Nat → Int} (h : n < 2) : nrm m f n = false := if_pos h
theorem nrm_lead {m n : Nat} {f : Nat → Int} (h : ¬ n < 2) (h1 : f (n - 1) ≠ 1) : nrm m f n = false := by unfold nrm; rw [if_neg h, if_pos h1]
theorem nrm_const {m n : Nat} {f : Nat → Int} (h : ¬ n < 2) (h1 : f (n - 1) = 1) (h2 : f 0 ≠ 0) : nrm m f n = false := by unfold nrm; rw [if_neg h, if_neg (by simp [h1]), if_pos h2]
theorem nrm_div {m n : Nat} {f : Nat → Int} (h : ¬ n < 2) (h1 : f (n - 1) = 1) (h2 : f 0 = 0) (h3 : ((n - 1 : Nat) : Int) % pr m = 0) : nrm m f n = true := by unfold nrm; rw [if_neg h, if_neg (by simp [h1]), if_neg (by simp [h2]), if_pos h3]
theorem nrm_two {m : Nat} {f : Nat → Int} (h1 : f 1 = 1) (h2 : f 0 = 0) : nrm m f 2 = true := by
  unfold nrm
  rw [if_neg (by omega), if_neg (by simpa using h1), if_neg (by simp [h2])]
  split <;> simp
theorem nrm_more {m n : Nat} {f : Nat → Int} (h : ¬ n < 2) (h1 : f (n - 1) = 1) (h2 : f 0 = 0) (h3 : ((n - 1 : Nat) : Int) % pr m ≠ 0) (h4 : n ≠ 2) : nrm m f n = decide (f (n - 2) = 0) := by unfold nrm; rw [if_neg h, if_neg (by simp [h1]), if_neg (by simp [h2]), if_neg h3, if_neg h4]
set_option maxHeartbeats 2000000 in
/-- spec.peNormal. -/
theorem peNormal_any (m n : Nat) (v : Value) (f : Nat → Int) (w : World) (h : isSz (m : Int) = true) (hv : Sl w v (fl f n)) (hn : n ≤ 1000) :
    Calls Try.prog 75 #[.int .i64 m, v] w fun e w' => e = .returned (.bool (nrm m f n)) ∧ Below w.heap.size w w' := by
  obtain ⟨a, cap, rfl, hp⟩ := hv.parts
  have HP := Lib.hid (fun w => fdPrime_any (m : Int) w h)
  obtain ⟨hp2, hp13⟩ := pr_bd (m : Int) h
  clear hv h
  by_cases hs : n < 2
  · rw [nrm_short hs]
    have hs' : (n : Int) - 1 < 1 := by omega
    clear hp
    go_enter Try.func75, Try.ntmps75
    go_wp2
    go_ret
    exact ⟨rfl, by (repeat' (first | (with_reducible assumption) | (with_reducible exact Below.refl _ _) | (with_reducible refine below_drewN ?_ _) | (with_reducible refine Below.drew ?_) | (with_reducible refine Below.alloc ?_ ?_ _) | (with_reducible refine Below.setCell ?_ ?_ _) | (with_reducible refine Below.trans ?_ (Below.mono (by assumption) ?_)) | (with_reducible exact Nat.le_refl _) | (with_reducible assumption) | omega | (simp; omega) | (simp; done)))⟩
  · obtain ⟨b, off, rfl, hb, hc⟩ := hp (by omega)
    clear hp
    have hl := hc (n - 1) (by omega)
    have h0 := hc 0 (by omega)
    rw [Nat.add_zero] at h0
    have hd : (n : Int) - 1 = ((n - 1 : Nat) : Int) := by omega
    by_cases h1 : f (n - 1) = 1
    · by_cases h2 : f 0 = 0
      · by_cases h3 : ((n - 1 : Nat) : Int) % pr m = 0
        · rw [nrm_div hs h1 h2 h3]
          rw [h1] at hl
          rw [h2] at h0
          have HD1 : Hid (1 ≤ n - 1 ∧ n - 1 < n) := Lib.hid (by omega)
          have h3b : (((n - 1 : Nat) : Int) % pr m == 0) = true := by simpa using h3
          clear hc h1 h2 hs h3
          generalize n - 1 = d at *
          obtain ⟨d1, d2⟩ := HD1.out
          generalize pr (m : Int) = P at *
          go_enter Try.func75, Try.ntmps75
          go_wp2_with fail
          refine (HP.out _).mono ?_
          rintro e w1 ⟨rfl, rfl⟩
          go_wp2
          go_ret
          exact ⟨rfl, by (repeat' (first | (with_reducible assumption) | (with_reducible exact Below.refl _ _) | (with_reducible refine below_drewN ?_ _) | (with_reducible refine Below.drew ?_) | (with_reducible refine Below.alloc ?_ ?_ _) | (with_reducible refine Below.setCell ?_ ?_ _) | (with_reducible refine Below.trans ?_ (Below.mono (by assumption) ?_)) | (with_reducible exact Nat.le_refl _) | (with_reducible assumption) | omega | (simp; omega) | (simp; done)))⟩
        · have h3b : (((n - 1 : Nat) : Int) % pr m == 0) = false := by simpa using h3
          by_cases h4 : n = 2
          · subst h4
            rw [nrm_two h1 h2]
            rw [h1] at hl
            rw [h2] at h0
            have h3c : ((1 : Int) % pr m == 0) = false := h3b
            clear hc h1 h2 hs h3 hd h3b
            generalize pr (m : Int) = P at *
            go_enter Try.func75, Try.ntmps75
            go_wp2_with fail
            refine (HP.out _).mono ?_
            rintro e w1 ⟨rfl, rfl⟩
            go_wp2
            go_ret
            exact ⟨rfl, by (repeat' (first | (with_reducible assumption) | (with_reducible exact Below.refl _ _) | (with_reducible refine below_drewN ?_ _) | (with_reducible refine Below.drew ?_) | (with_reducible refine Below.alloc ?_ ?_ _) | (with_reducible refine Below.setCell ?_ ?_ _) | (with_reducible refine Below.trans ?_ (Below.mono (by assumption) ?_)) | (with_reducible exact Nat.le_refl _) | (with_reducible assumption) | omega | (simp; omega) | (simp; done)))⟩
          · rw [nrm_more hs h1 h2 h3 h4]
            have he := hc (n - 2) (by omega)
            rw [h1] at hl
            rw [h2] at h0
            have hd2 : ((n - 1 : Nat) : Int) - 1 = ((n - 2 : Nat) : Int) := by omega
            have HD1 : Hid (2 ≤ n - 1 ∧ n - 1 < n ∧ n - 2 < n) := Lib.hid (by omega)
            clear hc h1 h2 hs h3 h4
            generalize f (n - 2) = y at *
            have hy : (y == 0) = decide (y = 0) := by by_cases e : y = 0 <;> simp [e]
            generalize decide (y = 0) = r at *
            generalize n - 2 = c at *
            generalize n - 1 = d at *
            obtain ⟨d1, d2, d3⟩ := HD1.out
            have hne : ((d : Int) == 1) = false := by simp; omega
            generalize pr (m : Int) = P at *
            go_enter Try.func75, Try.ntmps75
            go_wp2_with fail
            refine (HP.out _).mono ?_
            rintro e w1 ⟨rfl, rfl⟩
            go_wp2
            go_ret
            exact ⟨rfl, by (repeat' (first | (with_reducible assumption) | (with_reducible exact Below.refl _ _) | (with_reducible refine below_drewN ?_ _) | (with_reducible refine Below.drew ?_) | (with_reducible refine Below.alloc ?_ ?_ _) | (with_reducible refine Below.setCell ?_ ?_ _) | (with_reducible refine Below.trans ?_ (Below.mono (by assumption) ?_)) | (with_reducible exact Nat.le_refl _) | (with_reducible assumption) | omega | (simp; omega) | (simp; done)))⟩
      · rw [nrm_const hs h1 h2]
        rw [h1] at hl
        have HD1 : Hid (1 ≤ n - 1 ∧ n - 1 < n) := Lib.hid (by omega)
        have h2' : (f 0 == 0) = false := by simpa using h2
        have h2n : (f 0 != 0) = true := by simpa using h2
        clear hc h1 hs h2
        generalize f 0 = y at *
        generalize n - 1 = d at *
        obtain ⟨d1, d2⟩ := HD1.out
        go_enter Try.func75, Try.ntmps75
        go_wp2
        go_ret
        exact ⟨rfl, by (repeat' (first | (with_reducible assumption) | (with_reducible exact Below.refl _ _) | (with_reducible refine below_drewN ?_ _) | (with_reducible refine Below.drew ?_) | (with_reducible refine Below.alloc ?_ ?_ _) | (with_reducible refine Below.setCell ?_ ?_ _) | (with_reducible refine Below.trans ?_ (Below.mono (by assumption) ?_)) | (with_reducible exact Nat.le_refl _) | (with_reducible assumption) | omega | (simp; omega) | (simp; done)))⟩
    · rw [nrm_lead hs h1]
      have HD1 : Hid (1 ≤ n - 1 ∧ n - 1 < n) := Lib.hid (by omega)
      have h1' : (f (n - 1) == 1) = false := by simpa using h1
      have h1n : (f (n - 1) != 1) = true := by simpa using h1
      clear hc hs h1
      generalize f (n - 1) = y at *
      generalize n - 1 = d at *
      obtain ⟨d1, d2⟩ := HD1.out
      go_enter Try.func75, Try.ntmps75
      go_wp2
      go_ret
      exact ⟨rfl, by (repeat' (first | (with_reducible assumption) | (with_reducible exact Below.refl _ _) | (with_reducible refine below_drewN ?_ _) | (with_reducible refine Below.drew ?_) | (with_reducible refine Below.alloc ?_ ?_ _) | (with_reducible refine Below.setCell ?_ ?_ _) | (with_reducible refine Below.trans ?_ (Below.mono (by assumption) ?_)) | (with_reducible exact Nat.le_refl _) | (with_reducible assumption) | omega | (simp; omega) | (simp; done)))⟩
theorem nrm_rest {m n : Nat} {f : Nat → Int} (h : ¬ n < 2) (h1 : f (n - 1) = 1) (h2 : f 0 = 0) (h3 : ((n - 1 : Nat) : Int) % pr m ≠ 0) : nrm m f n = decide (f (n - 2) = 0) := by
  by_cases h4 : n = 2
  · subst h4
    rw [nrm_two h1 h2]
    simp [h2]
  · exact nrm_more h h1 h2 h3 h4
theorem eq_dgn (q x y : Int) (h : isSz q = true) (x0 : 0 ≤ x) (x1 : x < q) (y0 : 0 ≤ y) (y1 : y < q) (w : World) :
    (Op.equalIn 9999 76 (.agg #[.int .i64 (dg q x 0), .int .i64 (dg q x 1), .int .i64 (dg q x 2), .int .i64 (dg q x 3)]) (.agg #[.int .i64 (dg q y 0), .int .i64 (dg q y 1), .int .i64 (dg q y 2), .int .i64 (dg q y 3)])).run Try.prog w = .ok (decide (x = y)) w := by
  rw [← dg_inj q x y h x0 x1 y0 y1]
  exact eq_arr 76 Try.underlying76 _ _ _ _ _ _ _ _ 9997 w
set_option maxRecDepth 100000 in
set_option maxHeartbeats 8000000 in
/-- impl.poly.isNormal. -/
theorem isNormalE (m g n cap : Nat) (f : Nat → Int) (w : World) (h : isSz (m : Int) = true) (hg : g < w.heap.size) (he : Els w g (m : Int) f n) (hf : ∀ i, i < n → El (m : Int) (f i)) (hn : n ≤ 1000) :
    Calls Try.prog 81 #[polyE (m : Int) (.slice (some ⟨g, 0, none⟩) n cap)] w fun e w' => e = .returned (.bool (nrm m f n)) ∧ Below w.heap.size w w' := by
  have hq := isSz_le (m : Int) h
  obtain ⟨hp2, hp13⟩ := pr_bd (m : Int) h
  have HD := Lib.hid (fun w => degreeE (m : Int) g n cap w hn)
  by_cases hs : n < 2
  · rw [nrm_short hs]
    have hs' : (n : Int) - 1 < 1 := by omega
    clear h he hf
    go_enter Try.func81, Try.ntmps81
    go_wp2_with fail
    refine (HD.out _).mono ?_
    rintro e w1 ⟨rfl, hb1⟩
    have hz_hb1 := hb1.size; (try simp at hz_hb1)
    go_wp2_with fail
    go_region
    all_goals
      go_wp2
      go_ret
      exact ⟨rfl, by (repeat' (first | (with_reducible assumption) | (with_reducible exact Below.refl _ _) | (with_reducible refine below_drewN ?_ _) | (with_reducible refine Below.drew ?_) | (with_reducible refine Below.alloc ?_ ?_ _) | (with_reducible refine Below.setCell ?_ ?_ _) | (with_reducible refine Below.trans ?_ (Below.mono (by assumption) ?_)) | (with_reducible exact Nat.le_refl _) | (with_reducible assumption) | omega | (simp; omega) | (simp; done)))⟩
  · have HO := Lib.hid (fun w => oneE (m : Int) w h)
    have HZL := Lib.hid (fun i (hi : i < n) w => isZeroE (m : Int) (f i) w h (hf i hi).1 (hf i hi).2)
    have HEQ := Lib.hid (fun w => eq_dgn (m : Int) (f (n - 1)) 1 h (hf (n - 1) (by omega)).1 (hf (n - 1) (by omega)).2 (by omega) (by omega) w)
    have HKEEP : Hid (∀ d L Z, d < n → f d = L → f 0 = Z → ∀ w', Below w.heap.size w w' → w'.heap[w.heap.size]? = some (pblk (m : Int) (.slice (some ⟨g, 0, none⟩) n cap)) → w'.cell? ⟨w.heap.size, 0, none⟩ = some (.int .i64 m) ∧ w'.cell? ⟨w.heap.size, 1, none⟩ = some (.int .i64 (pr m)) ∧ w'.cell? ⟨w.heap.size, 2, none⟩ = some (.int .i64 (pl m)) ∧ w'.cell? ⟨w.heap.size, 3, none⟩ = some (.slice (some ⟨g, 0, none⟩) n cap) ∧ w'.cell? ⟨g, d * 7, none⟩ = some (.int .i64 m) ∧ w'.cell? ⟨g, d * 7 + 1, none⟩ = some (.int .i64 (pr m)) ∧ w'.cell? ⟨g, d * 7 + 2, none⟩ = some (.int .i64 (pl m)) ∧ w'.cell? ⟨g, d * 7 + 3, none⟩ = some (.int .i64 (dg m L 0)) ∧ w'.cell? ⟨g, d * 7 + 4, none⟩ = some (.int .i64 (dg m L 1)) ∧ w'.cell? ⟨g, d * 7 + 5, none⟩ = some (.int .i64 (dg m L 2)) ∧ w'.cell? ⟨g, d * 7 + 6, none⟩ = some (.int .i64 (dg m L 3)) ∧ w'.cell? ⟨g, 0, none⟩ = some (.int .i64 m) ∧ w'.cell? ⟨g, 1, none⟩ = some (.int .i64 (pr m)) ∧ w'.cell? ⟨g, 2, none⟩ = some (.int .i64 (pl m)) ∧ w'.cell? ⟨g, 3, none⟩ = some (.int .i64 (dg m Z 0)) ∧ w'.cell? ⟨g, 4, none⟩ = some (.int .i64 (dg m Z 1)) ∧ w'.cell? ⟨g, 5, none⟩ = some (.int .i64 (dg m Z 2)) ∧ w'.cell? ⟨g, 6, none⟩ = some (.int .i64 (dg m Z 3))) := Lib.hid fun d L Z hd e1 e2 w' hb hB => by
      obtain ⟨x0, x1, x2, x3, _⟩ := cells4 hB
      have y := (he.below hb hg) d hd
      have z := (he.below hb hg) 0 (by omega)
      rw [e1] at y
      rw [e2] at z
      simp only [Nat.zero_mul, Nat.zero_add] at z
      obtain ⟨y0, y1, y2, y3, y4, y5, y6⟩ := y
      obtain ⟨z0, z1, z2, z3, z4, z5, z6⟩ := z
      exact ⟨x0, x1, x2, x3, y0, y1, y2, y3, y4, y5, y6, z0, z1, z2, z3, z4, z5, z6⟩
    have HEL := Lib.hid (fun (j : Nat) (hj : j < n) w' (hb : Below w.heap.size w w') => (he.below hb hg) j hj)
    have HPB : Hid (∀ w', Below (w.heap.size + 1) (w.alloc (pblk (m : Int) (.slice (some ⟨g, 0, none⟩) n cap))) w' → w'.heap[w.heap.size]? = some (pblk (m : Int) (.slice (some ⟨g, 0, none⟩) n cap))) := Lib.hid fun w' hb => (hb.block _ (by omega)).trans (heap_alloc_new w _)
    have hd : (n : Int) - 1 = ((n - 1 : Nat) : Int) := by omega
    clear h he hf
    by_cases h1 : f (n - 1) = 1
    · have HE' := Lib.hid (fun w => by have := HEQ.out w; rw [h1, show decide ((1 : Int) = 1) = true from rfl] at this; exact this)
      by_cases h2 : f 0 = 0
      · have HZ0 := Lib.hid (fun w => by have := HZL.out 0 (by omega) w; rw [h2, show decide ((0 : Int) = 0) = true from rfl] at this; exact this)
        have HK := Lib.hid (HKEEP.out (n - 1) 1 0 (by omega) h1 h2)
        by_cases h3 : ((n - 1 : Nat) : Int) % pr m = 0
        · rw [nrm_div hs h1 h2 h3]
          have h3b : (((n - 1 : Nat) : Int) % pr m == 0) = true := by simpa using h3
          have HD1 : Hid (1 ≤ n - 1 ∧ n - 1 < n) := Lib.hid (by omega)
          clear h1 h2 hs h3 HZL HEQ HKEEP HEL
          generalize n - 1 = d at *
          obtain ⟨d1, d2⟩ := HD1.out
          go_enter Try.func81, Try.ntmps81
          go_wp2_with fail
          refine (HD.out _).mono ?_
          rintro e w1 ⟨rfl, hb1⟩
          have hz_hb1 := hb1.size; (try simp at hz_hb1)
          have HB1 := Lib.hid hb1; clear hb1
          rw [hd]
          have hg1 : decide ((d : Int) < 1) = false := decide_eq_false (by omega)
          have hn0 : 0 < n := by omega
          go_wp2_with fail
          have heq0 := HE'.out
          first | (go_region_held3 (fun w' => w'.cell? ⟨w.heap.size, 0, none⟩ = some (.int .i64 m) ∧ w'.cell? ⟨w.heap.size, 1, none⟩ = some (.int .i64 (pr m)) ∧ w'.cell? ⟨w.heap.size, 2, none⟩ = some (.int .i64 (pl m)) ∧ w'.cell? ⟨w.heap.size, 3, none⟩ = some (.slice (some ⟨g, 0, none⟩) n cap) ∧ w'.cell? ⟨g, d * 7, none⟩ = some (.int .i64 m) ∧ w'.cell? ⟨g, d * 7 + 1, none⟩ = some (.int .i64 (pr m)) ∧ w'.cell? ⟨g, d * 7 + 2, none⟩ = some (.int .i64 (pl m)) ∧ w'.cell? ⟨g, d * 7 + 3, none⟩ = some (.int .i64 (dg m 1 0)) ∧ w'.cell? ⟨g, d * 7 + 4, none⟩ = some (.int .i64 (dg m 1 1)) ∧ w'.cell? ⟨g, d * 7 + 5, none⟩ = some (.int .i64 (dg m 1 2)) ∧ w'.cell? ⟨g, d * 7 + 6, none⟩ = some (.int .i64 (dg m 1 3)) ∧ w'.cell? ⟨g, 0, none⟩ = some (.int .i64 m) ∧ w'.cell? ⟨g, 1, none⟩ = some (.int .i64 (pr m)) ∧ w'.cell? ⟨g, 2, none⟩ = some (.int .i64 (pl m)) ∧ w'.cell? ⟨g, 3, none⟩ = some (.int .i64 (dg m 0 0)) ∧ w'.cell? ⟨g, 4, none⟩ = some (.int .i64 (dg m 0 1)) ∧ w'.cell? ⟨g, 5, none⟩ = some (.int .i64 (dg m 0 2)) ∧ w'.cell? ⟨g, 6, none⟩ = some (.int .i64 (dg m 0 3)))
            (exact HK.out _ (by (have hb1 := HB1.out); (try have hb2 := HB2.out); (try have hb3 := HB3.out); (repeat' (first | (with_reducible assumption) | (with_reducible exact Below.refl _ _) | (with_reducible refine below_drewN ?_ _) | (with_reducible refine Below.drew ?_) | (with_reducible refine Below.alloc ?_ ?_ _) | (with_reducible refine Below.setCell ?_ ?_ _) | (with_reducible refine Below.trans ?_ (Below.mono (by assumption) ?_)) | (with_reducible exact Nat.le_refl _) | (with_reducible assumption) | omega | (simp; omega) | (simp; done)))) (HPB.out _ (by (have hb1 := HB1.out); (try have hb2 := HB2.out); (try have hb3 := HB3.out); (repeat' (first | (with_reducible assumption) | (with_reducible exact Below.refl _ _) | (with_reducible refine below_drewN ?_ _) | (with_reducible refine Below.drew ?_) | (with_reducible refine Below.alloc ?_ ?_ _) | (with_reducible refine Below.setCell ?_ ?_ _) | (with_reducible refine Below.trans ?_ (Below.mono (by assumption) ?_)) | (with_reducible exact Nat.le_refl _) | (with_reducible assumption) | omega | (simp; omega) | (simp; done))))))
            (first
            | (go_at_call 95; refine (HO.out _).mono ?_; rintro e w2 ⟨rfl, hb2⟩; obtain ⟨hc2, hf2⟩ := bcell hb2; (try simp only [World.size_drew] at hc2 hf2); have hz2 := hb2.size; (try simp at hz2); have HB2 := Lib.hid hb2; clear hb2)
            | (go_at_call 65; refine (HZ0.out _).mono ?_; rintro e w3 ⟨rfl, hb3⟩; obtain ⟨hc3, hf3⟩ := bcell hb3; (try simp only [World.size_drew] at hc3 hf3); have hz3 := hb3.size; (try simp at hz3); have HB3 := Lib.hid hb3; clear hb3))) | fail
          all_goals
            have hb1 := HB1.out
            have hb2 := HB2.out
            have hb3 := HB3.out
            obtain ⟨p0, p1, p2, p3, _⟩ := HK.out w3 (by (repeat' (first | (with_reducible assumption) | (with_reducible exact Below.refl _ _) | (with_reducible refine below_drewN ?_ _) | (with_reducible refine Below.drew ?_) | (with_reducible refine Below.alloc ?_ ?_ _) | (with_reducible refine Below.setCell ?_ ?_ _) | (with_reducible refine Below.trans ?_ (Below.mono (by assumption) ?_)) | (with_reducible exact Nat.le_refl _) | (with_reducible assumption) | omega | (simp; omega) | (simp; done)))) (HPB.out w3 (by (repeat' (first | (with_reducible assumption) | (with_reducible exact Below.refl _ _) | (with_reducible refine below_drewN ?_ _) | (with_reducible refine Below.drew ?_) | (with_reducible refine Below.alloc ?_ ?_ _) | (with_reducible refine Below.setCell ?_ ?_ _) | (with_reducible refine Below.trans ?_ (Below.mono (by assumption) ?_)) | (with_reducible exact Nat.le_refl _) | (with_reducible assumption) | omega | (simp; omega) | (simp; done)))))
            go_wp2_with fail
            go_ret
            exact ⟨rfl, by (repeat' (first | (with_reducible assumption) | (with_reducible exact Below.refl _ _) | (with_reducible refine below_drewN ?_ _) | (with_reducible refine Below.drew ?_) | (with_reducible refine Below.alloc ?_ ?_ _) | (with_reducible refine Below.setCell ?_ ?_ _) | (with_reducible refine Below.trans ?_ (Below.mono (by assumption) ?_)) | (with_reducible exact Nat.le_refl _) | (with_reducible assumption) | omega | (simp; omega) | (simp; done)))⟩
        · rw [nrm_rest hs h1 h2 h3]
          have h3b : (((n - 1 : Nat) : Int) % pr m == 0) = false := by simpa using h3
          have HD1 : Hid (1 ≤ n - 1 ∧ n - 1 < n ∧ n - 2 < n) := Lib.hid (by omega)
          have hd2 : ((n - 1 : Nat) : Int) - 1 = ((n - 2 : Nat) : Int) := by omega
          have HZ2 := Lib.hid (fun w => HZL.out (n - 2) (by omega) w)
          have HEL2 := Lib.hid (fun w' hb => HEL.out (n - 2) (by omega) w' hb)
          clear h1 h2 hs h3 HZL HEQ HKEEP HEL
          generalize f (n - 2) = y at *
          generalize decide (y = 0) = r at *
          generalize n - 2 = c at *
          generalize n - 1 = d at *
          obtain ⟨d1, d2, d3⟩ := HD1.out
          go_enter Try.func81, Try.ntmps81
          go_wp2_with fail
          refine (HD.out _).mono ?_
          rintro e w1 ⟨rfl, hb1⟩
          have hz_hb1 := hb1.size; (try simp at hz_hb1)
          have HB1 := Lib.hid hb1; clear hb1
          rw [hd]
          have hg1 : decide ((d : Int) < 1) = false := decide_eq_false (by omega)
          have hn0 : 0 < n := by omega
          go_wp2_with fail
          have heq0 := HE'.out
          first | (go_region_held3 (fun w' => w'.cell? ⟨w.heap.size, 0, none⟩ = some (.int .i64 m) ∧ w'.cell? ⟨w.heap.size, 1, none⟩ = some (.int .i64 (pr m)) ∧ w'.cell? ⟨w.heap.size, 2, none⟩ = some (.int .i64 (pl m)) ∧ w'.cell? ⟨w.heap.size, 3, none⟩ = some (.slice (some ⟨g, 0, none⟩) n cap) ∧ w'.cell? ⟨g, d * 7, none⟩ = some (.int .i64 m) ∧ w'.cell? ⟨g, d * 7 + 1, none⟩ = some (.int .i64 (pr m)) ∧ w'.cell? ⟨g, d * 7 + 2, none⟩ = some (.int .i64 (pl m)) ∧ w'.cell? ⟨g, d * 7 + 3, none⟩ = some (.int .i64 (dg m 1 0)) ∧ w'.cell? ⟨g, d * 7 + 4, none⟩ = some (.int .i64 (dg m 1 1)) ∧ w'.cell? ⟨g, d * 7 + 5, none⟩ = some (.int .i64 (dg m 1 2)) ∧ w'.cell? ⟨g, d * 7 + 6, none⟩ = some (.int .i64 (dg m 1 3)) ∧ w'.cell? ⟨g, 0, none⟩ = some (.int .i64 m) ∧ w'.cell? ⟨g, 1, none⟩ = some (.int .i64 (pr m)) ∧ w'.cell? ⟨g, 2, none⟩ = some (.int .i64 (pl m)) ∧ w'.cell? ⟨g, 3, none⟩ = some (.int .i64 (dg m 0 0)) ∧ w'.cell? ⟨g, 4, none⟩ = some (.int .i64 (dg m 0 1)) ∧ w'.cell? ⟨g, 5, none⟩ = some (.int .i64 (dg m 0 2)) ∧ w'.cell? ⟨g, 6, none⟩ = some (.int .i64 (dg m 0 3)))
            (exact HK.out _ (by (have hb1 := HB1.out); (try have hb2 := HB2.out); (try have hb3 := HB3.out); (repeat' (first | (with_reducible assumption) | (with_reducible exact Below.refl _ _) | (with_reducible refine below_drewN ?_ _) | (with_reducible refine Below.drew ?_) | (with_reducible refine Below.alloc ?_ ?_ _) | (with_reducible refine Below.setCell ?_ ?_ _) | (with_reducible refine Below.trans ?_ (Below.mono (by assumption) ?_)) | (with_reducible exact Nat.le_refl _) | (with_reducible assumption) | omega | (simp; omega) | (simp; done)))) (HPB.out _ (by (have hb1 := HB1.out); (try have hb2 := HB2.out); (try have hb3 := HB3.out); (repeat' (first | (with_reducible assumption) | (with_reducible exact Below.refl _ _) | (with_reducible refine below_drewN ?_ _) | (with_reducible refine Below.drew ?_) | (with_reducible refine Below.alloc ?_ ?_ _) | (with_reducible refine Below.setCell ?_ ?_ _) | (with_reducible refine Below.trans ?_ (Below.mono (by assumption) ?_)) | (with_reducible exact Nat.le_refl _) | (with_reducible assumption) | omega | (simp; omega) | (simp; done))))))
            (first
            | (go_at_call 95; refine (HO.out _).mono ?_; rintro e w2 ⟨rfl, hb2⟩; obtain ⟨hc2, hf2⟩ := bcell hb2; (try simp only [World.size_drew] at hc2 hf2); have hz2 := hb2.size; (try simp at hz2); have HB2 := Lib.hid hb2; clear hb2)
            | (go_at_call 65; refine (HZ0.out _).mono ?_; rintro e w3 ⟨rfl, hb3⟩; obtain ⟨hc3, hf3⟩ := bcell hb3; (try simp only [World.size_drew] at hc3 hf3); have hz3 := hb3.size; (try simp at hz3); have HB3 := Lib.hid hb3; clear hb3))) | fail
          all_goals
            have hb1 := HB1.out
            have hb2 := HB2.out
            have hb3 := HB3.out
            obtain ⟨p0, p1, p2, p3, _⟩ := HK.out w3 (by (repeat' (first | (with_reducible assumption) | (with_reducible exact Below.refl _ _) | (with_reducible refine below_drewN ?_ _) | (with_reducible refine Below.drew ?_) | (with_reducible refine Below.alloc ?_ ?_ _) | (with_reducible refine Below.setCell ?_ ?_ _) | (with_reducible refine Below.trans ?_ (Below.mono (by assumption) ?_)) | (with_reducible exact Nat.le_refl _) | (with_reducible assumption) | omega | (simp; omega) | (simp; done)))) (HPB.out w3 (by (repeat' (first | (with_reducible assumption) | (with_reducible exact Below.refl _ _) | (with_reducible refine below_drewN ?_ _) | (with_reducible refine Below.drew ?_) | (with_reducible refine Below.alloc ?_ ?_ _) | (with_reducible refine Below.setCell ?_ ?_ _) | (with_reducible refine Below.trans ?_ (Below.mono (by assumption) ?_)) | (with_reducible exact Nat.le_refl _) | (with_reducible assumption) | omega | (simp; omega) | (simp; done)))))
            obtain ⟨c0, c1, c2, c3, c4, c5, c6⟩ := HEL2.out _ (show Below w.heap.size w w3 by (repeat' (first | (with_reducible assumption) | (with_reducible exact Below.refl _ _) | (with_reducible refine below_drewN ?_ _) | (with_reducible refine Below.drew ?_) | (with_reducible refine Below.alloc ?_ ?_ _) | (with_reducible refine Below.setCell ?_ ?_ _) | (with_reducible refine Below.trans ?_ (Below.mono (by assumption) ?_)) | (with_reducible exact Nat.le_refl _) | (with_reducible assumption) | omega | (simp; omega) | (simp; done))))
            clear hb1 hb2 hb3
            go_wp2_with fail
            refine (HZ2.out _).mono ?_
            rintro e w4 ⟨rfl, hb4⟩
            have hz_hb4 := hb4.size; (try simp at hz_hb4)
            have HB4 := Lib.hid hb4; clear hb4
            go_wp2_with fail
            go_ret
            have hb1 := HB1.out
            have hb2 := HB2.out
            have hb3 := HB3.out
            have hb4 := HB4.out
            exact ⟨rfl, by (repeat' (first | (with_reducible assumption) | (with_reducible exact Below.refl _ _) | (with_reducible refine below_drewN ?_ _) | (with_reducible refine Below.drew ?_) | (with_reducible refine Below.alloc ?_ ?_ _) | (with_reducible refine Below.setCell ?_ ?_ _) | (with_reducible refine Below.trans ?_ (Below.mono (by assumption) ?_)) | (with_reducible exact Nat.le_refl _) | (with_reducible assumption) | omega | (simp; omega) | (simp; done)))⟩
      · rw [nrm_const hs h1 h2]
        have HZ0 := Lib.hid (fun w => by have := HZL.out 0 (by omega) w; rw [show decide (f 0 = 0) = false from decide_eq_false h2] at this; exact this)
        have HK := Lib.hid (HKEEP.out (n - 1) 1 (f 0) (by omega) h1 rfl)
        have HD1 : Hid (1 ≤ n - 1 ∧ n - 1 < n) := Lib.hid (by omega)
        clear h1 h2 hs HZL HEQ HKEEP HEL
        generalize f 0 = Z at *
        generalize n - 1 = d at *
        obtain ⟨d1, d2⟩ := HD1.out
        go_enter Try.func81, Try.ntmps81
        go_wp2_with fail
        refine (HD.out _).mono ?_
        rintro e w1 ⟨rfl, hb1⟩
        have hz_hb1 := hb1.size; (try simp at hz_hb1)
        have HB1 := Lib.hid hb1; clear hb1
        rw [hd]
        have hg1 : decide ((d : Int) < 1) = false := decide_eq_false (by omega)
        have hn0 : 0 < n := by omega
        go_wp2_with fail
        have heq0 := HE'.out
        first | (go_region_held3 (fun w' => w'.cell? ⟨w.heap.size, 0, none⟩ = some (.int .i64 m) ∧ w'.cell? ⟨w.heap.size, 1, none⟩ = some (.int .i64 (pr m)) ∧ w'.cell? ⟨w.heap.size, 2, none⟩ = some (.int .i64 (pl m)) ∧ w'.cell? ⟨w.heap.size, 3, none⟩ = some (.slice (some ⟨g, 0, none⟩) n cap) ∧ w'.cell? ⟨g, d * 7, none⟩ = some (.int .i64 m) ∧ w'.cell? ⟨g, d * 7 + 1, none⟩ = some (.int .i64 (pr m)) ∧ w'.cell? ⟨g, d * 7 + 2, none⟩ = some (.int .i64 (pl m)) ∧ w'.cell? ⟨g, d * 7 + 3, none⟩ = some (.int .i64 (dg m 1 0)) ∧ w'.cell? ⟨g, d * 7 + 4, none⟩ = some (.int .i64 (dg m 1 1)) ∧ w'.cell? ⟨g, d * 7 + 5, none⟩ = some (.int .i64 (dg m 1 2)) ∧ w'.cell? ⟨g, d * 7 + 6, none⟩ = some (.int .i64 (dg m 1 3)) ∧ w'.cell? ⟨g, 0, none⟩ = some (.int .i64 m) ∧ w'.cell? ⟨g, 1, none⟩ = some (.int .i64 (pr m)) ∧ w'.cell? ⟨g, 2, none⟩ = some (.int .i64 (pl m)) ∧ w'.cell? ⟨g, 3, none⟩ = some (.int .i64 (dg m Z 0)) ∧ w'.cell? ⟨g, 4, none⟩ = some (.int .i64 (dg m Z 1)) ∧ w'.cell? ⟨g, 5, none⟩ = some (.int .i64 (dg m Z 2)) ∧ w'.cell? ⟨g, 6, none⟩ = some (.int .i64 (dg m Z 3)))
          (exact HK.out _ (by (have hb1 := HB1.out); (try have hb2 := HB2.out); (try have hb3 := HB3.out); (repeat' (first | (with_reducible assumption) | (with_reducible exact Below.refl _ _) | (with_reducible refine below_drewN ?_ _) | (with_reducible refine Below.drew ?_) | (with_reducible refine Below.alloc ?_ ?_ _) | (with_reducible refine Below.setCell ?_ ?_ _) | (with_reducible refine Below.trans ?_ (Below.mono (by assumption) ?_)) | (with_reducible exact Nat.le_refl _) | (with_reducible assumption) | omega | (simp; omega) | (simp; done)))) (HPB.out _ (by (have hb1 := HB1.out); (try have hb2 := HB2.out); (try have hb3 := HB3.out); (repeat' (first | (with_reducible assumption) | (with_reducible exact Below.refl _ _) | (with_reducible refine below_drewN ?_ _) | (with_reducible refine Below.drew ?_) | (with_reducible refine Below.alloc ?_ ?_ _) | (with_reducible refine Below.setCell ?_ ?_ _) | (with_reducible refine Below.trans ?_ (Below.mono (by assumption) ?_)) | (with_reducible exact Nat.le_refl _) | (with_reducible assumption) | omega | (simp; omega) | (simp; done))))))
          (first
          | (go_at_call 95; refine (HO.out _).mono ?_; rintro e w2 ⟨rfl, hb2⟩; obtain ⟨hc2, hf2⟩ := bcell hb2; (try simp only [World.size_drew] at hc2 hf2); have hz2 := hb2.size; (try simp at hz2); have HB2 := Lib.hid hb2; clear hb2)
          | (go_at_call 65; refine (HZ0.out _).mono ?_; rintro e w3 ⟨rfl, hb3⟩; obtain ⟨hc3, hf3⟩ := bcell hb3; (try simp only [World.size_drew] at hc3 hf3); have hz3 := hb3.size; (try simp at hz3); have HB3 := Lib.hid hb3; clear hb3))) | fail
        all_goals
          go_wp2
          go_ret
          have hb1 := HB1.out
          have hb2 := HB2.out
          try have hb3 := HB3.out
          exact ⟨rfl, by (repeat' (first | (with_reducible assumption) | (with_reducible exact Below.refl _ _) | (with_reducible refine below_drewN ?_ _) | (with_reducible refine Below.drew ?_) | (with_reducible refine Below.alloc ?_ ?_ _) | (with_reducible refine Below.setCell ?_ ?_ _) | (with_reducible refine Below.trans ?_ (Below.mono (by assumption) ?_)) | (with_reducible exact Nat.le_refl _) | (with_reducible assumption) | omega | (simp; omega) | (simp; done)))⟩
    · rw [nrm_lead hs h1]
      have HE' := Lib.hid (fun w => by have := HEQ.out w; rw [show decide (f (n - 1) = 1) = false from decide_eq_false h1] at this; exact this)
      have HK := Lib.hid (HKEEP.out (n - 1) (f (n - 1)) (f 0) (by omega) rfl rfl)
      have HD1 : Hid (1 ≤ n - 1 ∧ n - 1 < n) := Lib.hid (by omega)
      clear h1 hs HZL HEQ HKEEP HEL
      generalize f (n - 1) = L at *
      generalize f 0 = Z at *
      generalize n - 1 = d at *
      obtain ⟨d1, d2⟩ := HD1.out
      go_enter Try.func81, Try.ntmps81
      go_wp2_with fail
      refine (HD.out _).mono ?_
      rintro e w1 ⟨rfl, hb1⟩
      have hz_hb1 := hb1.size; (try simp at hz_hb1)
      have hg1 : decide ((d : Int) < 1) = false := decide_eq_false (by omega)
      have hn0 : 0 < n := by omega
      have heq0 := HE'.out
      obtain ⟨p0, p1, p2, p3, l0, l1, l2, l3, l4, l5, l6, z0, z1, z2, z3, z4, z5, z6⟩ := HK.out w1 (by (repeat' (first | (with_reducible assumption) | (with_reducible exact Below.refl _ _) | (with_reducible refine below_drewN ?_ _) | (with_reducible refine Below.drew ?_) | (with_reducible refine Below.alloc ?_ ?_ _) | (with_reducible refine Below.setCell ?_ ?_ _) | (with_reducible refine Below.trans ?_ (Below.mono (by assumption) ?_)) | (with_reducible exact Nat.le_refl _) | (with_reducible assumption) | omega | (simp; omega) | (simp; done)))) (HPB.out w1 (by (repeat' (first | (with_reducible assumption) | (with_reducible exact Below.refl _ _) | (with_reducible refine below_drewN ?_ _) | (with_reducible refine Below.drew ?_) | (with_reducible refine Below.alloc ?_ ?_ _) | (with_reducible refine Below.setCell ?_ ?_ _) | (with_reducible refine Below.trans ?_ (Below.mono (by assumption) ?_)) | (with_reducible exact Nat.le_refl _) | (with_reducible assumption) | omega | (simp; omega) | (simp; done)))))
      have HB1 := Lib.hid hb1; clear hb1
      have lw : w.heap.size < w1.heap.size := by omega
      have lg : g < w1.heap.size := by omega
      rw [hd]
      go_wp2_with fail
      first | (go_region_with (first | (go_at_call 95; refine (HO.out _).mono ?_; rintro e w2 ⟨rfl, hb2⟩; obtain ⟨hc2, hf2⟩ := bcell hb2; (try simp only [World.size_drew] at hc2 hf2); have hz2 := hb2.size; (try simp at hz2); have HB2 := Lib.hid hb2; clear hb2))) | fail
      all_goals
        go_wp2
        go_ret
        have hb1 := HB1.out
        have hb2 := HB2.out
        exact ⟨rfl, by (repeat' (first | (with_reducible assumption) | (with_reducible exact Below.refl _ _) | (with_reducible refine below_drewN ?_ _) | (with_reducible refine Below.drew ?_) | (with_reducible refine Below.alloc ?_ ?_ _) | (with_reducible refine Below.setCell ?_ ?_ _) | (with_reducible refine Below.trans ?_ (Below.mono (by assumption) ?_)) | (with_reducible exact Nat.le_refl _) | (with_reducible assumption) | omega | (simp; omega) | (simp; done)))⟩

end Go.Proofs.Ytnmdcmbcackchab
