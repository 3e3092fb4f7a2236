/- DicksonAt, of both, by contracts; the walk of its law. -/
import Derived.Test.YteclpkicebdfpaaNC
import Derived.Deep.RegionHeld3
namespace Go.Proofs.Yteclpkicebdfpaa
open Go.RowKit
/-- What DicksonAt is asked of. -/
def dat (q n a y : Int) : Bool := ((isSz q && okE n) && inE q a) && (inE q y && !decide (y = 0))
/-- Its value. -/
def dav (m : Nat) (k : Nat) (a y : Int) : Int := addF m (pw m y k) (pw m (mulF m a (invF m y)) k)
set_option maxHeartbeats 2000000 in
theorem spec_DicksonAt_yes (m k : Nat) (a y : Int) (w : World) (ha : inE (m : Int) a = true) (hy : inE (m : Int) y = true) (h0 : y ≠ 0) (hk : k ≤ 400) :
    Calls Try.prog 8 #[.int .i64 m, .int .i64 k, .int .i64 a, .int .i64 y] w fun e w' => e = .returned (.tuple #[.int .i64 (dav m k a y), .bool true]) ∧ Below w.heap.size w w' := by
  obtain ⟨h, a0, a1⟩ := inE_yes ha
  obtain ⟨_, y0, y1⟩ := inE_yes hy
  have ey : El (m : Int) y := ⟨y0, y1⟩
  have eA : El (m : Int) a := ⟨a0, a1⟩
  have hi := invF_bd (m : Int) y h y0 y1
  have hm := eA.mul h (show El (m : Int) (invF m y) from hi)
  have hp1 := El.pw h ey k
  have hp2 := El.pw h hm k
  have HA := Lib.hid (fun w => asked_yes m k w h hk)
  have HI1 := Lib.hid (fun w => fdIn_any (m : Int) a w)
  have HI2 := Lib.hid (fun w => fdIn_any (m : Int) y w)
  rw [ha] at HI1
  rw [hy] at HI2
  have HP1 := Lib.hid (fun w => fdPower_any (m : Int) y (k : Int) w h y0 y1 (by omega) (by omega))
  have HV := Lib.hid (fun w => fdInverse_any (m : Int) y w h y0 y1)
  have HM := Lib.hid (fun w => fdTimes_any (m : Int) a (invF m y) w h a0 a1 hi.1 hi.2)
  have HP2 := Lib.hid (fun w => fdPower_any (m : Int) (mulF m a (invF m y)) (k : Int) w h hm.1 hm.2 (by omega) (by omega))
  simp only [Int.toNat_natCast] at HP1 HP2
  have HS := Lib.hid (fun w => fdPlus_any (m : Int) (pw m y k) (pw m (mulF m a (invF m y)) k) w h hp1.1 hp1.2 hp2.1 hp2.2)
  have HR : Hid (dav m k a y = addF m (pw m y k) (pw m (mulF m a (invF m y)) k)) := Lib.hid rfl
  have hne : (y == 0) = false := by simpa using h0
  clear h ha hy ey eA hi hm hp1 hp2
  generalize pw m (mulF m a (invF m y)) k = x3 at *
  generalize mulF m a (invF m y) = x2 at *
  generalize invF m y = x1 at *
  generalize pw m y k = x0 at *
  go_enter Try.func8, Try.ntmps8
  go_wp2_with fail
  refine (HA.out _).mono ?_
  rintro e w1 ⟨rfl, hb1⟩
  obtain ⟨hc1, hf1⟩ := bcell hb1; have hz1 := hb1.size; (try simp at hz1); have HB1 := Lib.hid hb1; clear hb1
  go_wp2_with fail
  refine (HI1.out _).mono ?_
  rintro e w2 ⟨rfl, hb2⟩
  obtain ⟨hc2, hf2⟩ := bcell hb2; have hz2 := hb2.size; (try simp at hz2); have HB2 := Lib.hid hb2; clear hb2
  go_wp2_with fail
  refine (HI2.out _).mono ?_
  rintro e w3 ⟨rfl, hb3⟩
  obtain ⟨hc3, hf3⟩ := bcell hb3; have hz3 := hb3.size; (try simp at hz3); have HB3 := Lib.hid hb3; clear hb3
  go_wp2_with fail
  refine (HP1.out _).mono ?_
  rintro e w4 ⟨rfl, hb4⟩
  obtain ⟨hc4, hf4⟩ := bcell hb4; have hz4 := hb4.size; (try simp at hz4); have HB4 := Lib.hid hb4; clear hb4
  go_wp2_with fail
  refine (HV.out _).mono ?_
  rintro e w5 ⟨rfl, hb5⟩
  obtain ⟨hc5, hf5⟩ := bcell hb5; have hz5 := hb5.size; (try simp at hz5); have HB5 := Lib.hid hb5; clear hb5
  go_wp2_with fail
  refine (HM.out _).mono ?_
  rintro e w6 ⟨rfl, hb6⟩
  obtain ⟨hc6, hf6⟩ := bcell hb6; have hz6 := hb6.size; (try simp at hz6); have HB6 := Lib.hid hb6; clear hb6
  go_wp2_with fail
  refine (HP2.out _).mono ?_
  rintro e w7 ⟨rfl, hb7⟩
  obtain ⟨hc7, hf7⟩ := bcell hb7; have hz7 := hb7.size; (try simp at hz7); have HB7 := Lib.hid hb7; clear hb7
  go_wp2_with fail
  refine (HS.out _).mono ?_
  rintro e w8 ⟨rfl, hb8⟩
  obtain ⟨hc8, hf8⟩ := bcell hb8; have hz8 := hb8.size; (try simp at hz8); have HB8 := Lib.hid hb8; clear hb8
  go_wp2
  go_ret2
  have hb1 := HB1.out
  have hb2 := HB2.out
  have hb3 := HB3.out
  have hb4 := HB4.out
  have hb5 := HB5.out
  have hb6 := HB6.out
  have hb7 := HB7.out
  have hb8 := HB8.out
  exact ⟨by rw [HR.out]; rfl, by (repeat' (first | (with_reducible assumption) | (with_reducible exact Below.refl _ _) | (with_reducible refine below_drewN ?_ _) | (with_reducible refine Below.drew ?_) | (with_reducible refine Below.alloc ?_ ?_ _) | (with_reducible refine Below.setCell ?_ ?_ _) | (with_reducible refine Below.trans ?_ (Below.mono (by assumption) ?_)) | (with_reducible exact Nat.le_refl _) | (with_reducible assumption) | omega | (simp; omega) | (simp; done)))⟩
set_option maxHeartbeats 2000000 in
theorem spec_DicksonAt_no (q n a y : Int) (w : World) (h : dat q n a y = false) :
    Calls Try.prog 8 #[.int .i64 q, .int .i64 n, .int .i64 a, .int .i64 y] w fun e w' => e = .returned (.tuple #[.int .i64 0, .bool false]) ∧ Below w.heap.size w w' := by
  have HA := Lib.hid (fun w => kdAsked_any q n w)
  have HI1 := Lib.hid (fun w => fdIn_any q a w)
  have HI2 := Lib.hid (fun w => fdIn_any q y w)
  unfold dat at h
  cases h1 : (isSz q && okE n) with
  | false =>
    rw [h1] at HA
    clear h h1
    go_enter Try.func8, Try.ntmps8
    go_wp2_with fail
    refine (HA.out _).mono ?_
    rintro e w1 ⟨rfl, hb1⟩
    go_wp2
    go_ret2
    exact ⟨rfl, hb1⟩
  | true =>
    rw [h1] at HA h
    cases h2 : inE q a with
    | false =>
      rw [h2] at HI1
      clear h h1 h2
      go_enter Try.func8, Try.ntmps8
      go_wp2_with fail
      refine (HA.out _).mono ?_
      rintro e w1 ⟨rfl, hb1⟩
      have hz_hb1 := hb1.size; (try simp at hz_hb1)
      go_wp2_with fail
      refine (HI1.out _).mono ?_
      rintro e w2 ⟨rfl, hb2⟩
      go_wp2
      go_ret2
      exact ⟨rfl, by (repeat' (first | (with_reducible assumption) | (with_reducible exact Below.refl _ _) | (with_reducible refine below_drewN ?_ _) | (with_reducible refine Below.drew ?_) | (with_reducible refine Below.alloc ?_ ?_ _) | (with_reducible refine Below.setCell ?_ ?_ _) | (with_reducible refine Below.trans ?_ (Below.mono (by assumption) ?_)) | (with_reducible exact Nat.le_refl _) | (with_reducible assumption) | omega | (simp; omega) | (simp; done)))⟩
    | true =>
      rw [h2] at HI1 h
      cases h3 : inE q y with
      | false =>
        rw [h3] at HI2
        clear h h1 h2 h3
        go_enter Try.func8, Try.ntmps8
        go_wp2_with fail
        refine (HA.out _).mono ?_
        rintro e w1 ⟨rfl, hb1⟩
        have hz_hb1 := hb1.size; (try simp at hz_hb1)
        go_wp2_with fail
        refine (HI1.out _).mono ?_
        rintro e w2 ⟨rfl, hb2⟩
        have hz_hb2 := hb2.size; (try simp at hz_hb2)
        go_wp2_with fail
        refine (HI2.out _).mono ?_
        rintro e w3 ⟨rfl, hb3⟩
        go_wp2
        go_ret2
        exact ⟨rfl, by (repeat' (first | (with_reducible assumption) | (with_reducible exact Below.refl _ _) | (with_reducible refine below_drewN ?_ _) | (with_reducible refine Below.drew ?_) | (with_reducible refine Below.alloc ?_ ?_ _) | (with_reducible refine Below.setCell ?_ ?_ _) | (with_reducible refine Below.trans ?_ (Below.mono (by assumption) ?_)) | (with_reducible exact Nat.le_refl _) | (with_reducible assumption) | omega | (simp; omega) | (simp; done)))⟩
      | true =>
        rw [h3] at HI2 h
        have h0 : y = 0 := by simpa using h
        subst h0
        clear h h1 h2 h3
        go_enter Try.func8, Try.ntmps8
        go_wp2_with fail
        refine (HA.out _).mono ?_
        rintro e w1 ⟨rfl, hb1⟩
        have hz_hb1 := hb1.size; (try simp at hz_hb1)
        go_wp2_with fail
        refine (HI1.out _).mono ?_
        rintro e w2 ⟨rfl, hb2⟩
        have hz_hb2 := hb2.size; (try simp at hz_hb2)
        go_wp2_with fail
        refine (HI2.out _).mono ?_
        rintro e w3 ⟨rfl, hb3⟩
        go_wp2
        go_ret2
        exact ⟨rfl, by (repeat' (first | (with_reducible assumption) | (with_reducible exact Below.refl _ _) | (with_reducible refine below_drewN ?_ _) | (with_reducible refine Below.drew ?_) | (with_reducible refine Below.alloc ?_ ?_ _) | (with_reducible refine Below.setCell ?_ ?_ _) | (with_reducible refine Below.trans ?_ (Below.mono (by assumption) ?_)) | (with_reducible exact Nat.le_refl _) | (with_reducible assumption) | omega | (simp; omega) | (simp; done)))⟩
theorem pairOf_none (q a b : Int) (w : World) (h : (inE q a && inE q b) = false) :
    Calls Try.prog 40 #[.int .i64 q, .int .i64 a, .int .i64 b] w fun e w' => e = .returned (.tuple #[elZ, elZ, .bool false]) ∧ Below w.heap.size w w' := by
  cases ha : inE q a with
  | false =>
    cases hb : inE q b with
    | false => exact pairOf_no1 q a b w ha hb
    | true => exact pairOf_no2 q a b w ha hb
  | true =>
    rw [ha, Bool.true_and] at h
    exact pairOf_no3 q a b w ha h
set_option maxHeartbeats 2000000 in
theorem impl_DicksonAt_no (q n a y : Int) (w : World) (h : dat q n a y = false) :
    Calls Try.prog 7 #[.int .i64 q, .int .i64 n, .int .i64 a, .int .i64 y] w fun e w' => e = .returned (.tuple #[.int .i64 0, .bool false]) ∧ Below w.heap.size w w' := by
  unfold dat at h
  cases hp : inE q a && inE q y with
  | false =>
    have HF := Lib.hid (fun w => pairOf_none q a y w hp)
    clear h hp
    go_enter Try.func7, Try.ntmps7
    go_wp2_with fail
    refine (HF.out _).mono ?_
    rintro e w1 ⟨rfl, hb1⟩
    obtain ⟨hc1, hf1⟩ := bcell hb1; have hz1 := hb1.size; (try simp at hz1); have HB1 := Lib.hid hb1; clear hb1
    go_wp2
    go_ret2
    have hb1 := HB1.out
    exact ⟨rfl, by (repeat' (first | (with_reducible assumption) | (with_reducible exact Below.refl _ _) | (with_reducible refine below_drewN ?_ _) | (with_reducible refine Below.drew ?_) | (with_reducible refine Below.alloc ?_ ?_ _) | (with_reducible refine Below.setCell ?_ ?_ _) | (with_reducible refine Below.trans ?_ (Below.mono (by assumption) ?_)) | (with_reducible exact Nat.le_refl _) | (with_reducible assumption) | omega | (simp; omega) | (simp; done)))⟩
  | true =>
    simp only [Bool.and_eq_true] at hp
    obtain ⟨ha, hy⟩ := hp
    obtain ⟨hs, y0, y1⟩ := inE_yes hy
    have HF := Lib.hid (fun w => pairOf_yes q a y w ha hy)
    have HZ := Lib.hid (fun w => isZeroE q y w hs y0 y1)
    have HX := Lib.hid (fun w => isExponentE n w)
    by_cases h0 : y = 0
    · subst h0
      clear h ha hy hs
      go_enter Try.func7, Try.ntmps7
      go_wp2_with fail
      refine (HF.out _).mono ?_
      rintro e w1 ⟨rfl, hb1⟩
      obtain ⟨hc1, hf1⟩ := bcell hb1; have hz1 := hb1.size; (try simp at hz1); have HB1 := Lib.hid hb1; clear hb1
      go_wp2_with fail
      refine (HZ.out _).mono ?_
      rintro e w2 ⟨rfl, hb2⟩
      obtain ⟨hc2, hf2⟩ := bcell hb2; have hz2 := hb2.size; (try simp at hz2); have HB2 := Lib.hid hb2; clear hb2
      go_wp2
      go_ret2
      have hb1 := HB1.out
      have hb2 := HB2.out
      exact ⟨rfl, by (repeat' (first | (with_reducible assumption) | (with_reducible exact Below.refl _ _) | (with_reducible refine below_drewN ?_ _) | (with_reducible refine Below.drew ?_) | (with_reducible refine Below.alloc ?_ ?_ _) | (with_reducible refine Below.setCell ?_ ?_ _) | (with_reducible refine Below.trans ?_ (Below.mono (by assumption) ?_)) | (with_reducible exact Nat.le_refl _) | (with_reducible assumption) | omega | (simp; omega) | (simp; done)))⟩
    · rw [decide_eq_false h0] at HZ h
      rw [ha, hy, hs] at h
      have h' : okE n = false := by simpa using h
      rw [h'] at HX
      clear h ha hy hs h'
      go_enter Try.func7, Try.ntmps7
      go_wp2_with fail
      refine (HF.out _).mono ?_
      rintro e w1 ⟨rfl, hb1⟩
      obtain ⟨hc1, hf1⟩ := bcell hb1; have hz1 := hb1.size; (try simp at hz1); have HB1 := Lib.hid hb1; clear hb1
      go_wp2_with fail
      refine (HZ.out _).mono ?_
      rintro e w2 ⟨rfl, hb2⟩
      obtain ⟨hc2, hf2⟩ := bcell hb2; have hz2 := hb2.size; (try simp at hz2); have HB2 := Lib.hid hb2; clear hb2
      go_wp2_with fail
      refine (HX.out _).mono ?_
      rintro e w3 ⟨rfl, hb3⟩
      obtain ⟨hc3, hf3⟩ := bcell hb3; have hz3 := hb3.size; (try simp at hz3); have HB3 := Lib.hid hb3; clear hb3
      go_wp2
      go_ret2
      have hb1 := HB1.out
      have hb2 := HB2.out
      have hb3 := HB3.out
      exact ⟨rfl, by (repeat' (first | (with_reducible assumption) | (with_reducible exact Below.refl _ _) | (with_reducible refine below_drewN ?_ _) | (with_reducible refine Below.drew ?_) | (with_reducible refine Below.alloc ?_ ?_ _) | (with_reducible refine Below.setCell ?_ ?_ _) | (with_reducible refine Below.trans ?_ (Below.mono (by assumption) ?_)) | (with_reducible exact Nat.le_refl _) | (with_reducible assumption) | omega | (simp; omega) | (simp; done)))⟩
set_option maxRecDepth 100000 in
set_option maxHeartbeats 4000000 in
theorem impl_DicksonAt_yes (m k : Nat) (a y : Int) (w : World) (ha : inE (m : Int) a = true) (hy : inE (m : Int) y = true) (h0 : y ≠ 0) (hk : k ≤ 400) :
    Calls Try.prog 7 #[.int .i64 m, .int .i64 k, .int .i64 a, .int .i64 y] w fun e w' => e = .returned (.tuple #[.int .i64 (dav m k a y), .bool true]) ∧ Below w.heap.size w w' := by
  obtain ⟨h, a0, a1⟩ := inE_yes ha
  obtain ⟨_, y0, y1⟩ := inE_yes hy
  have ey : El (m : Int) y := ⟨y0, y1⟩
  have eA : El (m : Int) a := ⟨a0, a1⟩
  have hi : El (m : Int) (invF m y) := invF_bd (m : Int) y h y0 y1
  have hm := eA.mul h hi
  have hp1 := El.pw h ey k
  have hp2 := El.pw h hm k
  have hs := hp1.add h hp2
  have HF := Lib.hid (fun w => pairOf_yes (m : Int) a y w ha hy)
  have HZ := Lib.hid (fun w => isZeroE (m : Int) y w h y0 y1)
  rw [decide_eq_false h0] at HZ
  have HX := Lib.hid (fun w => isExp_yes k w hk)
  have HP1 := Lib.hid (fun w => powerE (m : Int) y (k : Int) w h y0 y1 (by omega) (by omega))
  have HV : Hid (∀ w, Calls Try.prog 46 #[elE (m : Int) y] w fun e w' => e = .returned (elE (m : Int) (invF m y)) ∧ Below w.heap.size w w') := Lib.hid (fun w => inverseE (m : Int) y w h y0 y1)
  have HM := Lib.hid (fun w => timesE (m : Int) a (invF m y) w h a0 a1 hi.1 hi.2)
  have HP2 := Lib.hid (fun w => powerE (m : Int) (mulF m a (invF m y)) (k : Int) w h hm.1 hm.2 (by omega) (by omega))
  simp only [Int.toNat_natCast] at HP1 HP2
  have HS := Lib.hid (fun w => plusE (m : Int) (pw m y k) (pw m (mulF m a (invF m y)) k) w h hp1.1 hp1.2 hp2.1 hp2.2)
  have HN := Lib.hid (fun w => numberE (m : Int) (addF m (pw m y k) (pw m (mulF m a (invF m y)) k)) w h hs.1 hs.2)
  have HR : Hid (dav m k a y = addF m (pw m y k) (pw m (mulF m a (invF m y)) k)) := Lib.hid rfl
  clear h ha hy ey eA hi hm hp1 hp2 hs
  generalize addF m (pw m y k) (pw m (mulF m a (invF m y)) k) = x4 at *
  generalize pw m (mulF m a (invF m y)) k = x3 at *
  generalize mulF m a (invF m y) = x2 at *
  generalize invF m y = x1 at *
  generalize pw m y k = x0 at *
  go_enter Try.func7, Try.ntmps7
  go_wp2_with fail
  refine (HF.out _).mono ?_
  rintro e w1 ⟨rfl, hb1⟩
  obtain ⟨hc1, hf1⟩ := bcell hb1; have hz1 := hb1.size; (try simp at hz1); have HB1 := Lib.hid hb1; clear hb1
  go_wp2_with fail
  refine (HZ.out _).mono ?_
  rintro e w2 ⟨rfl, hb2⟩
  obtain ⟨hc2, hf2⟩ := bcell hb2; have hz2 := hb2.size; (try simp at hz2); have HB2 := Lib.hid hb2; clear hb2
  go_wp2_with fail
  refine (HX.out _).mono ?_
  rintro e w3 ⟨rfl, hb3⟩
  obtain ⟨hc3, hf3⟩ := bcell hb3; have hz3 := hb3.size; (try simp at hz3); have HB3 := Lib.hid hb3; clear hb3
  go_wp2_with fail
  have hb3x : Below (w1.heap.size + 2) ((w1.alloc (eblk (m : Int) a)).alloc (eblk (m : Int) y)) w3 := by
    have hb2 := HB2.out
    have hb3 := HB3.out
    (repeat' (first | (with_reducible assumption) | (with_reducible exact Below.refl _ _) | (with_reducible refine below_drewN ?_ _) | (with_reducible refine Below.drew ?_) | (with_reducible refine Below.alloc ?_ ?_ _) | (with_reducible refine Below.setCell ?_ ?_ _) | (with_reducible refine Below.trans ?_ (Below.mono (by assumption) ?_)) | (with_reducible exact Nat.le_refl _) | (with_reducible assumption) | omega | (simp; omega) | (simp; done)))
  have HB3X := Lib.hid hb3x
  have HKEEP : Hid (∀ w', Below w3.heap.size w3 w' → w'.cell? ⟨w1.heap.size, 0, none⟩ = some (.int .i64 m) ∧ w'.cell? ⟨w1.heap.size, 1, none⟩ = some (.int .i64 (pr m)) ∧ w'.cell? ⟨w1.heap.size, 2, none⟩ = some (.int .i64 (pl m)) ∧ w'.cell? ⟨w1.heap.size, 3, none⟩ = some (.int .i64 (dg m a 0)) ∧ w'.cell? ⟨w1.heap.size, 4, none⟩ = some (.int .i64 (dg m a 1)) ∧ w'.cell? ⟨w1.heap.size, 5, none⟩ = some (.int .i64 (dg m a 2)) ∧ w'.cell? ⟨w1.heap.size, 6, none⟩ = some (.int .i64 (dg m a 3)) ∧ w'.cell? ⟨w1.heap.size + 1, 0, none⟩ = some (.int .i64 m) ∧ w'.cell? ⟨w1.heap.size + 1, 1, none⟩ = some (.int .i64 (pr m)) ∧ w'.cell? ⟨w1.heap.size + 1, 2, none⟩ = some (.int .i64 (pl m)) ∧ w'.cell? ⟨w1.heap.size + 1, 3, none⟩ = some (.int .i64 (dg m y 0)) ∧ w'.cell? ⟨w1.heap.size + 1, 4, none⟩ = some (.int .i64 (dg m y 1)) ∧ w'.cell? ⟨w1.heap.size + 1, 5, none⟩ = some (.int .i64 (dg m y 2)) ∧ w'.cell? ⟨w1.heap.size + 1, 6, none⟩ = some (.int .i64 (dg m y 3))) := Lib.hid fun w' hb => by
    have hb' : Below (w1.heap.size + 2) ((w1.alloc (eblk (m : Int) a)).alloc (eblk (m : Int) y)) w' := HB3X.out.trans (hb.mono (by have := HB3X.out.size; simp at this; omega))
    obtain ⟨t0, t1⟩ := two w1 (eblk (m : Int) a) (eblk (m : Int) y)
    obtain ⟨x0, x1, x2, x3, x4, x5, x6, _⟩ := seven ((hb'.block _ (by omega)).trans t0)
    obtain ⟨y0, y1, y2, y3, y4, y5, y6, _⟩ := seven ((hb'.block _ (by omega)).trans t1)
    exact ⟨x0, x1, x2, x3, x4, x5, x6, y0, y1, y2, y3, y4, y5, y6⟩
  clear hb3x
  go_region_held3 (fun w' => w'.cell? ⟨w1.heap.size, 0, none⟩ = some (.int .i64 m) ∧ w'.cell? ⟨w1.heap.size, 1, none⟩ = some (.int .i64 (pr m)) ∧ w'.cell? ⟨w1.heap.size, 2, none⟩ = some (.int .i64 (pl m)) ∧ w'.cell? ⟨w1.heap.size, 3, none⟩ = some (.int .i64 (dg m a 0)) ∧ w'.cell? ⟨w1.heap.size, 4, none⟩ = some (.int .i64 (dg m a 1)) ∧ w'.cell? ⟨w1.heap.size, 5, none⟩ = some (.int .i64 (dg m a 2)) ∧ w'.cell? ⟨w1.heap.size, 6, none⟩ = some (.int .i64 (dg m a 3)) ∧ w'.cell? ⟨w1.heap.size + 1, 0, none⟩ = some (.int .i64 m) ∧ w'.cell? ⟨w1.heap.size + 1, 1, none⟩ = some (.int .i64 (pr m)) ∧ w'.cell? ⟨w1.heap.size + 1, 2, none⟩ = some (.int .i64 (pl m)) ∧ w'.cell? ⟨w1.heap.size + 1, 3, none⟩ = some (.int .i64 (dg m y 0)) ∧ w'.cell? ⟨w1.heap.size + 1, 4, none⟩ = some (.int .i64 (dg m y 1)) ∧ w'.cell? ⟨w1.heap.size + 1, 5, none⟩ = some (.int .i64 (dg m y 2)) ∧ w'.cell? ⟨w1.heap.size + 1, 6, none⟩ = some (.int .i64 (dg m y 3)))
    (exact HKEEP.out _ (by (try have hb4 := HB4.out); (try have hb5 := HB5.out); (try have hb6 := HB6.out); (try have hb7 := HB7.out); (try have hb8 := HB8.out); (try have hb9 := HB9.out); (repeat' (first | (with_reducible assumption) | (with_reducible exact Below.refl _ _) | (with_reducible refine below_drewN ?_ _) | (with_reducible refine Below.drew ?_) | (with_reducible refine Below.alloc ?_ ?_ _) | (with_reducible refine Below.setCell ?_ ?_ _) | (with_reducible refine Below.trans ?_ (Below.mono (by assumption) ?_)) | (with_reducible exact Nat.le_refl _) | (with_reducible assumption) | omega | (simp; omega) | (simp; done)))))
    (first
    | (go_at_call_of 43 (elE (m : Int) x2); refine (HP2.out _).mono ?_; rintro e w7 ⟨rfl, hb7⟩; obtain ⟨hc7, hf7⟩ := bcell hb7; (try simp only [World.size_drew] at hc7 hf7); have hz7 := hb7.size; (try simp at hz7); have HB7 := Lib.hid hb7; clear hb7)
    | (go_at_call 46; refine (HV.out _).mono ?_; rintro e w5 ⟨rfl, hb5⟩; obtain ⟨hc5, hf5⟩ := bcell hb5; (try simp only [World.size_drew] at hc5 hf5); have hz5 := hb5.size; (try simp at hz5); have HB5 := Lib.hid hb5; clear hb5)
    | (go_at_call 45; refine (HM.out _).mono ?_; rintro e w6 ⟨rfl, hb6⟩; obtain ⟨hc6, hf6⟩ := bcell hb6; (try simp only [World.size_drew] at hc6 hf6); have hz6 := hb6.size; (try simp at hz6); have HB6 := Lib.hid hb6; clear hb6)
    | (go_at_call 43; refine (HP1.out _).mono ?_; rintro e w4 ⟨rfl, hb4⟩; obtain ⟨hc4, hf4⟩ := bcell hb4; (try simp only [World.size_drew] at hc4 hf4); have hz4 := hb4.size; (try simp at hz4); have HB4 := Lib.hid hb4; clear hb4)
    | (go_at_call 44; refine (HS.out _).mono ?_; rintro e w8 ⟨rfl, hb8⟩; obtain ⟨hc8, hf8⟩ := bcell hb8; (try simp only [World.size_drew] at hc8 hf8); have hz8 := hb8.size; (try simp at hz8); have HB8 := Lib.hid hb8; clear hb8)
    | (go_at_call 47; refine (HN.out _).mono ?_; rintro e w9 ⟨rfl, hb9⟩; obtain ⟨hc9, hf9⟩ := bcell hb9; (try simp only [World.size_drew] at hc9 hf9); have hz9 := hb9.size; (try simp at hz9); have HB9 := Lib.hid hb9; clear hb9))
  all_goals
    go_wp2
    go_ret2
    have hb1 := HB1.out
    have hb2 := HB2.out
    have hb3 := HB3.out
    have hb4 := HB4.out
    have hb5 := HB5.out
    have hb6 := HB6.out
    have hb7 := HB7.out
    have hb8 := HB8.out
    have hb9 := HB9.out
    exact ⟨by rw [HR.out]; rfl, by (repeat' (first | (with_reducible assumption) | (with_reducible exact Below.refl _ _) | (with_reducible refine below_drewN ?_ _) | (with_reducible refine Below.drew ?_) | (with_reducible refine Below.alloc ?_ ?_ _) | (with_reducible refine Below.setCell ?_ ?_ _) | (with_reducible refine Below.trans ?_ (Below.mono (by assumption) ?_)) | (with_reducible exact Nat.le_refl _) | (with_reducible assumption) | omega | (simp; omega) | (simp; done)))⟩
theorem key_DicksonAt (q n a y : Int) : ∃ (r : Int) (o : Bool), (∀ (w : World), Calls Try.prog 8 #[.int .i64 q, .int .i64 n, .int .i64 a, .int .i64 y] w fun e w' => e = .returned (.tuple #[.int .i64 r, .bool o]) ∧ Below w.heap.size w w') ∧
      (∀ (w : World), Calls Try.prog 7 #[.int .i64 q, .int .i64 n, .int .i64 a, .int .i64 y] w fun e w' => e = .returned (.tuple #[.int .i64 r, .bool o]) ∧ Below w.heap.size w w') := by
  cases h : dat q n a y with
  | false => exact ⟨0, false, fun w => spec_DicksonAt_no q n a y w h, fun w => impl_DicksonAt_no q n a y w h⟩
  | true =>
    unfold dat at h
    rw [Bool.and_eq_true] at h
    obtain ⟨m, k, rfl, rfl, ha, hk⟩ := asked2_nat h.1
    have h2 := h.2
    simp only [Bool.and_eq_true, Bool.not_eq_true', decide_eq_false_iff_not] at h2
    exact ⟨_, true, fun w => spec_DicksonAt_yes m k a y w ha h2.1 h2.2 hk, fun w => impl_DicksonAt_yes m k a y w ha h2.1 h2.2 hk⟩
end Go.Proofs.Yteclpkicebdfpaa
