/- CountSquareSums and QuadraticSum, of both, by contracts; the walks of their laws. -/
import Derived.Test.YtpjlolnnbbgikaaTB
import Derived.Test.YtpjlolnnbbgikaaTN
import Derived.Test.YtpjlolnnbbgikaaKG
import Derived.Test.YtpjlolnnbbgikaaKM
import Derived.Deep.RegionHeld3
namespace Go.Proofs.Ytpjlolnnbbgikaa
open Go.RowKit
/-- How many sums of two squares. -/
def css (m : Nat) (c : Int) : Int := if c = 0 then (m : Int) - chi m (subF m 0 1) + (m : Int) * chi m (subF m 0 1) else (m : Int) - chi m (subF m 0 1)
theorem mul_sign {u : Int} (hu : -1 ≤ u ∧ u ≤ 1) {k : Int} (k0 : 0 ≤ k) (k1 : k ≤ 16) : -16 ≤ k * u ∧ k * u ≤ 16 := by
  have hc : u = -1 ∨ u = 0 ∨ u = 1 := by omega
  rcases hc with rfl | rfl | rfl <;> omega
set_option maxRecDepth 100000 in
set_option maxHeartbeats 4000000 in
/-- impl.element.countSquareSums. -/
theorem countSquareSumsE (m : Nat) (c : Int) (w : World) (h : isSz (m : Int) = true) (hc : El (m : Int) c) :
    Calls Try.prog 44 #[elE (m : Int) c] w fun e w' => e = .returned (.int .i64 (css m c)) ∧ Below w.heap.size w w' := by
  have hq := isSz_le (m : Int) h
  have hs := subF_bd (m : Int) 0 1 h (Int.le_refl _) (El.zero h).2 (El.one h).1 (El.one h).2
  have HC := Lib.hid (fun w => charactersE m w h)
  have HON := Lib.hid (fun w => oneE (m : Int) w h)
  have HNG := Lib.hid (fun w => negE (m : Int) 1 w h (El.one h).1 (El.one h).2)
  have HF := Lib.hid (fun w => ofE m (subF m 0 1) w h hs)
  have HZ := Lib.hid (fun w => isZeroE (m : Int) c w h hc.1 hc.2)
  have hu := chi_bd m (subF m 0 1)
  have hmu := mul_sign hu (k := (m : Int)) (by omega) (by omega)
  unfold css
  clear h hc hs
  generalize chi (m : Int) (subF m 0 1) = u at *
  generalize subF (m : Int) 0 1 = x at *
  generalize CH (chN m m) = A at *
  have hw1 : IntKind.i64.wrap ((m : Int) - u) = (m : Int) - u := IntWalk.i64_in _ (by omega)
  obtain ⟨p, hp⟩ : ∃ p, (m : Int) * u = p := ⟨_, rfl⟩
  rw [hp] at hmu ⊢
  have hw2 : IntKind.i64.wrap ((m : Int) * u) = p := by rw [hp]; exact IntWalk.i64_in _ (by omega)
  have hw3 : IntKind.i64.wrap ((m : Int) - u + p) = (m : Int) - u + p := IntWalk.i64_in _ (by omega)
  clear hp
  obtain ⟨r, hr⟩ : ∃ r, (if c = 0 then (m : Int) - u + p else (m : Int) - u) = r := ⟨_, rfl⟩
  rw [hr]
  have HR := Lib.hid hr; clear hr
  go_enter Try.func44, Try.ntmps44
  go_wp2_with fail
  have HKEEP : Hid (∀ w', Below (w.heap.size + 1) (w.alloc (eblk (m : Int) c)) w' → w'.cell? ⟨w.heap.size, 0, none⟩ = some (.int .i64 m) ∧ w'.cell? ⟨w.heap.size, 1, none⟩ = some (.int .i64 (pr m)) ∧ w'.cell? ⟨w.heap.size, 2, none⟩ = some (.int .i64 (pl m)) ∧ w'.cell? ⟨w.heap.size, 3, none⟩ = some (.int .i64 (dg m c 0)) ∧ w'.cell? ⟨w.heap.size, 4, none⟩ = some (.int .i64 (dg m c 1)) ∧ w'.cell? ⟨w.heap.size, 5, none⟩ = some (.int .i64 (dg m c 2)) ∧ w'.cell? ⟨w.heap.size, 6, none⟩ = some (.int .i64 (dg m c 3))) := Lib.hid fun w' hb => by
    obtain ⟨y0, y1, y2, y3, y4, y5, y6, _⟩ := seven ((hb.block w.heap.size (by omega)).trans (heap_alloc_new w _))
    exact ⟨y0, y1, y2, y3, y4, y5, y6⟩
  go_region_held3 (fun w' => w'.cell? ⟨w.heap.size, 0, none⟩ = some (.int .i64 m) ∧ w'.cell? ⟨w.heap.size, 1, none⟩ = some (.int .i64 (pr m)) ∧ w'.cell? ⟨w.heap.size, 2, none⟩ = some (.int .i64 (pl m)) ∧ w'.cell? ⟨w.heap.size, 3, none⟩ = some (.int .i64 (dg m c 0)) ∧ w'.cell? ⟨w.heap.size, 4, none⟩ = some (.int .i64 (dg m c 1)) ∧ w'.cell? ⟨w.heap.size, 5, none⟩ = some (.int .i64 (dg m c 2)) ∧ w'.cell? ⟨w.heap.size, 6, none⟩ = some (.int .i64 (dg m c 3)))
    (exact HKEEP.out _ (by (try have hb3 := HB3.out); (repeat' (first | (with_reducible assumption) | (with_reducible exact Below.refl _ _) | (with_reducible refine below_drewN ?_ _) | (with_reducible refine Below.drew ?_) | (with_reducible refine Below.alloc ?_ ?_ _) | (with_reducible refine Below.setCell ?_ ?_ _) | (with_reducible refine Below.trans ?_ (Below.mono (by assumption) ?_)) | (with_reducible exact Nat.le_refl _) | (with_reducible assumption) | omega | (simp; omega) | (simp; done)))))
    (first
    | (go_at_call 47; refine (HC.out _).mono ?_; rintro e w3 ⟨rfl, hb3⟩; obtain ⟨hc3, hf3⟩ := bcell hb3; (try simp only [World.size_drew] at hc3 hf3); have hz3 := hb3.size; (try simp at hz3); have HB3 := Lib.hid hb3; clear hb3))
  all_goals
    have hb3' : Below (w.heap.size + 1) (w.alloc (eblk (m : Int) c)) w3 := by have hb3 := HB3.out; (repeat' (first | (with_reducible assumption) | (with_reducible exact Below.refl _ _) | (with_reducible refine below_drewN ?_ _) | (with_reducible refine Below.drew ?_) | (with_reducible refine Below.alloc ?_ ?_ _) | (with_reducible refine Below.setCell ?_ ?_ _) | (with_reducible refine Below.trans ?_ (Below.mono (by assumption) ?_)) | (with_reducible exact Nat.le_refl _) | (with_reducible assumption) | omega | (simp; omega) | (simp; done)))
    obtain ⟨y0, y1, y2, y3, y4, y5, y6⟩ := HKEEP.out w3 hb3'
    have HB3' := Lib.hid hb3'
    have hz3 := hb3'.size
    simp at hz3
    clear hb3' HB3
    go_wp2_with fail
    refine (HON.out _).mono ?_
    rintro e w4 ⟨rfl, hb4⟩
    have hz4 := hb4.size
    go_wp2_with fail
    refine (HNG.out _).mono ?_
    rintro e w5 ⟨rfl, hb5⟩
    have hz5 := hb5.size
    go_wp2_with fail
    refine (HF.out _).mono ?_
    rintro e w6 ⟨rfl, hb6⟩
    have hb6' : Below (w.heap.size + 1) (w.alloc (eblk (m : Int) c)) w6 := HB3'.out.trans ((hb4.trans ((hb5.trans (hb6.mono hz5)).mono hz4)).mono (by omega))
    have HB6 := Lib.hid hb6'
    have hz6 := hb6'.size
    simp at hz6
    clear y0 y1 y2 y3 y4 y5 y6 hb4 hb5 hb6
    obtain ⟨y0, y1, y2, y3, y4, y5, y6⟩ := HKEEP.out w6 hb6'
    clear hb6'
    by_cases h0 : c = 0
    · have HR' : Hid ((m : Int) - u + p = r) := Lib.hid (by rw [← HR.out, if_pos h0])
      have HZ' : Hid (∀ w, Calls Try.prog 69 #[elE (m : Int) c] w fun e w' => e = .returned (.bool true) ∧ Below w.heap.size w w') := Lib.hid (by have := HZ.out; rw [decide_eq_true h0] at this; exact this)
      clear HZ h0
      go_wp2_with fail
      refine (HZ'.out _).mono ?_
      rintro e w7 ⟨rfl, hb7⟩
      have HB7 : Hid (Below w.heap.size w w7) := Lib.hid (by have hb6 := HB6.out; (repeat' (first | (with_reducible assumption) | (with_reducible exact Below.refl _ _) | (with_reducible refine below_drewN ?_ _) | (with_reducible refine Below.drew ?_) | (with_reducible refine Below.alloc ?_ ?_ _) | (with_reducible refine Below.setCell ?_ ?_ _) | (with_reducible refine Below.trans ?_ (Below.mono (by assumption) ?_)) | (with_reducible exact Nat.le_refl _) | (with_reducible assumption) | omega | (simp; omega) | (simp; done))))
      clear hb7
      go_wp2
      go_ret
      exact ⟨by rw [HR'.out]; rfl, HB7.out⟩
    · have HR' : Hid ((m : Int) - u = r) := Lib.hid (by rw [← HR.out, if_neg h0])
      have HZ' : Hid (∀ w, Calls Try.prog 69 #[elE (m : Int) c] w fun e w' => e = .returned (.bool false) ∧ Below w.heap.size w w') := Lib.hid (by have := HZ.out; rw [decide_eq_false h0] at this; exact this)
      clear HZ h0
      go_wp2_with fail
      refine (HZ'.out _).mono ?_
      rintro e w7 ⟨rfl, hb7⟩
      have HB7 : Hid (Below w.heap.size w w7) := Lib.hid (by have hb6 := HB6.out; (repeat' (first | (with_reducible assumption) | (with_reducible exact Below.refl _ _) | (with_reducible refine below_drewN ?_ _) | (with_reducible refine Below.drew ?_) | (with_reducible refine Below.alloc ?_ ?_ _) | (with_reducible refine Below.setCell ?_ ?_ _) | (with_reducible refine Below.trans ?_ (Below.mono (by assumption) ?_)) | (with_reducible exact Nat.le_refl _) | (with_reducible assumption) | omega | (simp; omega) | (simp; done))))
      clear hb7
      go_wp2
      go_ret
      exact ⟨by rw [HR'.out]; rfl, HB7.out⟩
theorem spec_CountSquareSums_no (q a : Int) (w : World) (h : ode q a = false) :
    Calls Try.prog 12 #[.int .i64 q, .int .i64 a] w fun e w' => e = .returned (.tuple #[.int .i64 0, .bool false]) ∧ Below w.heap.size w w' := by
  have HO := Lib.hid (fun w => ctOdd_any q w)
  have HI := Lib.hid (fun w => fdIn_any q a w)
  cases ho : odq q with
  | false =>
    rw [ho] at HO
    clear h ho
    go_enter Try.func12, Try.ntmps12
    go_wp2_with fail
    refine (HO.out _).mono ?_
    rintro e w1 ⟨rfl, hb1⟩
    go_wp2
    go_ret2
    exact ⟨rfl, hb1⟩
  | true =>
    rw [ho] at HO
    rw [← ode_in ho, h] at HI
    clear h ho
    go_enter Try.func12, Try.ntmps12
    go_wp2_with fail
    refine (HO.out _).mono ?_
    rintro e w1 ⟨rfl, hb1⟩
    have hz_hb1 := hb1.size; (try simp at hz_hb1)
    go_wp2_with fail
    refine (HI.out _).mono ?_
    rintro e w2 ⟨rfl, hb2⟩
    go_wp2
    go_ret2
    exact ⟨rfl, by (repeat' (first | (with_reducible assumption) | (with_reducible exact Below.refl _ _) | (with_reducible refine below_drewN ?_ _) | (with_reducible refine Below.drew ?_) | (with_reducible refine Below.alloc ?_ ?_ _) | (with_reducible refine Below.setCell ?_ ?_ _) | (with_reducible refine Below.trans ?_ (Below.mono (by assumption) ?_)) | (with_reducible exact Nat.le_refl _) | (with_reducible assumption) | omega | (simp; omega) | (simp; done)))⟩
theorem impl_CountSquareSums_no (q a : Int) (w : World) (h : ode q a = false) :
    Calls Try.prog 11 #[.int .i64 q, .int .i64 a] w fun e w' => e = .returned (.tuple #[.int .i64 0, .bool false]) ∧ Below w.heap.size w w' := by
  have HO := Lib.hid (fun w => oddElementOf_no q a w h)
  clear h
  go_enter Try.func11, Try.ntmps11
  go_wp2_with fail
  refine (HO.out _).mono ?_
  rintro e w1 ⟨rfl, hb1⟩
  have hz_hb1 := hb1.size; (try simp at hz_hb1)
  go_wp2
  go_ret2
  exact ⟨rfl, by (repeat' (first | (with_reducible assumption) | (with_reducible exact Below.refl _ _) | (with_reducible refine below_drewN ?_ _) | (with_reducible refine Below.drew ?_) | (with_reducible refine Below.alloc ?_ ?_ _) | (with_reducible refine Below.setCell ?_ ?_ _) | (with_reducible refine Below.trans ?_ (Below.mono (by assumption) ?_)) | (with_reducible exact Nat.le_refl _) | (with_reducible assumption) | omega | (simp; omega) | (simp; done)))⟩
set_option maxRecDepth 100000 in
set_option maxHeartbeats 4000000 in
theorem spec_CountSquareSums_yes (m : Nat) (c : Int) (w : World) (h : isSz (m : Int) = true) (ho : (m : Int) % 2 = 1) (hc : inE (m : Int) c = true) :
    Calls Try.prog 12 #[.int .i64 m, .int .i64 c] w fun e w' => e = .returned (.tuple #[.int .i64 (css m c), .bool true]) ∧ Below w.heap.size w w' := by
  have hq := isSz_le (m : Int) h
  have HO := Lib.hid (fun w => ctOdd_any (m : Int) w)
  have hoq : odq (m : Int) = true := by unfold odq; rw [h, ho]; rfl
  rw [hoq] at HO
  have HI := Lib.hid (fun w => fdIn_any (m : Int) c w)
  rw [hc] at HI
  have hs := subF_bd (m : Int) 0 1 h (Int.le_refl _) (El.zero h).2 (El.one h).1 (El.one h).2
  have HL := Lib.hid (fun w => fdLess_any (m : Int) 0 1 w h (Int.le_refl _) (El.zero h).2 (El.one h).1 (El.one h).2)
  have HC := Lib.hid (fun w => ctOf_any m (subF m 0 1) w h ho hs.1 hs.2)
  have hu := chi_bd m (subF m 0 1)
  have hmu := mul_sign hu (k := (m : Int)) (by omega) (by omega)
  unfold css
  clear h hc hs ho hoq
  generalize chi (m : Int) (subF m 0 1) = u at *
  generalize subF (m : Int) 0 1 = x at *
  have hw1 : IntKind.i64.wrap ((m : Int) - u) = (m : Int) - u := IntWalk.i64_in _ (by omega)
  obtain ⟨p, hp⟩ : ∃ p, (m : Int) * u = p := ⟨_, rfl⟩
  rw [hp] at hmu ⊢
  have hw2 : IntKind.i64.wrap ((m : Int) * u) = p := by rw [hp]; exact IntWalk.i64_in _ (by omega)
  have hw3 : IntKind.i64.wrap ((m : Int) - u + p) = (m : Int) - u + p := IntWalk.i64_in _ (by omega)
  clear hp
  by_cases h0 : c = 0
  · rw [if_pos h0]
    subst h0
    go_enter Try.func12, Try.ntmps12
    go_wp2_with fail
    refine (HO.out _).mono ?_
    rintro e w1 ⟨rfl, hb1⟩
    have hz_hb1 := hb1.size; (try simp at hz_hb1)
    go_wp2_with fail
    refine (HI.out _).mono ?_
    rintro e w2 ⟨rfl, hb2⟩
    have hz_hb2 := hb2.size; (try simp at hz_hb2)
    go_wp2_with fail
    refine (HL.out _).mono ?_
    rintro e w3 ⟨rfl, hb3⟩
    have hz_hb3 := hb3.size; (try simp at hz_hb3)
    go_wp2_with fail
    refine (HC.out _).mono ?_
    rintro e w4 ⟨rfl, hb4⟩
    go_wp2
    go_ret2
    exact ⟨rfl, by (repeat' (first | (with_reducible assumption) | (with_reducible exact Below.refl _ _) | (with_reducible refine below_drewN ?_ _) | (with_reducible refine Below.drew ?_) | (with_reducible refine Below.alloc ?_ ?_ _) | (with_reducible refine Below.setCell ?_ ?_ _) | (with_reducible refine Below.trans ?_ (Below.mono (by assumption) ?_)) | (with_reducible exact Nat.le_refl _) | (with_reducible assumption) | omega | (simp; omega) | (simp; done)))⟩
  · rw [if_neg h0]
    go_enter Try.func12, Try.ntmps12
    go_wp2_with fail
    refine (HO.out _).mono ?_
    rintro e w1 ⟨rfl, hb1⟩
    have hz_hb1 := hb1.size; (try simp at hz_hb1)
    go_wp2_with fail
    refine (HI.out _).mono ?_
    rintro e w2 ⟨rfl, hb2⟩
    have hz_hb2 := hb2.size; (try simp at hz_hb2)
    go_wp2_with fail
    refine (HL.out _).mono ?_
    rintro e w3 ⟨rfl, hb3⟩
    have hz_hb3 := hb3.size; (try simp at hz_hb3)
    go_wp2_with fail
    refine (HC.out _).mono ?_
    rintro e w4 ⟨rfl, hb4⟩
    go_wp2
    go_ret2
    exact ⟨rfl, by (repeat' (first | (with_reducible assumption) | (with_reducible exact Below.refl _ _) | (with_reducible refine below_drewN ?_ _) | (with_reducible refine Below.drew ?_) | (with_reducible refine Below.alloc ?_ ?_ _) | (with_reducible refine Below.setCell ?_ ?_ _) | (with_reducible refine Below.trans ?_ (Below.mono (by assumption) ?_)) | (with_reducible exact Nat.le_refl _) | (with_reducible assumption) | omega | (simp; omega) | (simp; done)))⟩
theorem impl_CountSquareSums_yes (m : Nat) (c : Int) (w : World) (h : isSz (m : Int) = true) (ho : (m : Int) % 2 = 1) (hc : inE (m : Int) c = true) :
    Calls Try.prog 11 #[.int .i64 m, .int .i64 c] w fun e w' => e = .returned (.tuple #[.int .i64 (css m c), .bool true]) ∧ Below w.heap.size w w' := by
  have HO := Lib.hid (fun w => oddElementOf_yes m c w hc ho)
  have HC := Lib.hid (fun w => countSquareSumsE m c w h ⟨(inE_yes hc).2.1, (inE_yes hc).2.2⟩)
  clear h hc ho
  generalize css m c = r at *
  go_enter Try.func11, Try.ntmps11
  go_wp2_with fail
  refine (HO.out _).mono ?_
  rintro e w1 ⟨rfl, hb1⟩
  have hz_hb1 := hb1.size; (try simp at hz_hb1)
  go_wp2_with fail
  refine (HC.out _).mono ?_
  rintro e w2 ⟨rfl, hb2⟩
  go_wp2
  go_ret2
  exact ⟨rfl, by (repeat' (first | (with_reducible assumption) | (with_reducible exact Below.refl _ _) | (with_reducible refine below_drewN ?_ _) | (with_reducible refine Below.drew ?_) | (with_reducible refine Below.alloc ?_ ?_ _) | (with_reducible refine Below.setCell ?_ ?_ _) | (with_reducible refine Below.trans ?_ (Below.mono (by assumption) ?_)) | (with_reducible exact Nat.le_refl _) | (with_reducible assumption) | omega | (simp; omega) | (simp; done)))⟩
theorem key_CountSquareSums (q : Int) (c : Int) : ∃ (r : Int) (o : Bool), (∀ (w : World), Calls Try.prog 12 #[.int .i64 q, .int .i64 c] w fun e w' => e = .returned (.tuple #[.int .i64 r, .bool o]) ∧ Below w.heap.size w w') ∧
      (∀ (w : World), Calls Try.prog 11 #[.int .i64 q, .int .i64 c] w fun e w' => e = .returned (.tuple #[.int .i64 r, .bool o]) ∧ Below w.heap.size w w') := by
  cases h : ode q c with
  | false => exact ⟨0, false, fun w => spec_CountSquareSums_no q c w h, fun w => impl_CountSquareSums_no q c w h⟩
  | true =>
    obtain ⟨m, rfl, hs, ho, ha⟩ := ode_nat h
    exact ⟨_, true, fun w => spec_CountSquareSums_yes m c w hs ho ha, fun w => impl_CountSquareSums_yes m c w hs ho ha⟩
/-- The sum of characters of a quadratic. -/
def qds (m : Nat) (a b c : Int) : Int := if mulF m b b = tim m (mulF m a c) 4 then chi m a * ((m : Int) - 1) else -chi m a
def qok (q a b c : Int) : Bool := inN q a && odp q b c
theorem qok_nat {q a b c : Int} (h : qok q a b c = true) : ∃ m : Nat, q = (m : Int) ∧ isSz (m : Int) = true ∧ (m : Int) % 2 = 1 ∧ inN (m : Int) a = true ∧ inE (m : Int) b = true ∧ inE (m : Int) c = true := by
  simp only [qok, Bool.and_eq_true] at h
  obtain ⟨ha, hd⟩ := h
  obtain ⟨m, rfl, hs, ho, hb, hc⟩ := odp_nat hd
  exact ⟨m, rfl, hs, ho, ha, hb, hc⟩
theorem eq_dgq (q x y : Int) (h : isSz q = true) (hx : El q x) (hy : El q y) (w : World) :
    (Op.equalIn 9999 51 (.agg #[.int .i64 (dg q x 0), .int .i64 (dg q x 1), .int .i64 (dg q x 2), .int .i64 (dg q x 3)]) (.agg #[.int .i64 (dg q y 0), .int .i64 (dg q y 1), .int .i64 (dg q y 2), .int .i64 (dg q y 3)])).run Try.prog w = .ok (decide (x = y)) w :=
  eq_dg' q x y h hx.1 hx.2 hy.1 hy.2 w
set_option maxRecDepth 100000 in
set_option maxHeartbeats 4000000 in
/-- impl.field.quadraticSum, where the square is told. -/
theorem quadraticSum_told (m : Nat) (a b c : Int) (w : World) (h : isSz (m : Int) = true) (ha : El (m : Int) a) (hb : El (m : Int) b) (hc : El (m : Int) c) (hd : mulF m b b = tim m (mulF m a c) 4) :
    Calls Try.prog 32 #[fdE (m : Int), elE (m : Int) a, elE (m : Int) b, elE (m : Int) c] w fun e w' => e = .returned (.int .i64 (chi m a * ((m : Int) - 1))) ∧ Below w.heap.size w w' := by
  have hq := isSz_le (m : Int) h
  have HC := Lib.hid (fun w => charactersE m w h)
  have HT1 := Lib.hid (fun w => timesE (m : Int) b b w h hb.1 hb.2 hb.1 hb.2)
  have HT2 := Lib.hid (fun w => timesE (m : Int) a c w h ha.1 ha.2 hc.1 hc.2)
  have hbb := hb.mul h hb
  have hac := ha.mul h hc
  have ht4 := tim_el h hac 4
  have HSC := Lib.hid (fun w => timE (m : Int) (mulF m a c) 4 w h hac (by omega))
  have HEQ := Lib.hid (fun w => eq_dgq (m : Int) (mulF m b b) (tim m (mulF m a c) 4) h hbb ht4 w)
  rw [decide_eq_true hd] at HEQ
  have HF := Lib.hid (fun w => ofE m a w h ha)
  have hu := chi_bd m a
  have hmu := mul_sign hu (k := (m : Int) - 1) (by omega) (by omega)
  rw [Int.mul_comm] at hmu
  clear h ha hb hc hbb hac ht4 hd
  change Hid (∀ w, Calls _ _ #[_, .int .i64 4] _ _) at HSC
  generalize tim (m : Int) (mulF m a c) 4 = x3 at *
  generalize mulF (m : Int) a c = x2 at *
  generalize mulF (m : Int) b b = x1 at *
  generalize chi (m : Int) a = u at *
  generalize CH (chN m m) = A at *
  have hwm : IntKind.i64.wrap ((m : Int) - 1) = (m : Int) - 1 := IntWalk.i64_in _ (by omega)
  have hwn : IntKind.i64.wrap (-u) = -u := IntWalk.i64_in _ (by omega)
  obtain ⟨p, hp⟩ : ∃ p, u * ((m : Int) - 1) = p := ⟨_, rfl⟩
  rw [hp] at hmu ⊢
  have hwp : IntKind.i64.wrap (u * ((m : Int) - 1)) = p := by rw [hp]; exact IntWalk.i64_in _ (by omega)
  clear hp
  go_enter Try.func32, Try.ntmps32
  have HW4 : Hid (((((w.alloc (ffblk (m : Int))).alloc (eblk (m : Int) a)).alloc (eblk (m : Int) b)).alloc (eblk (m : Int) c)).heap[w.heap.size]? = some (ffblk (m : Int)) ∧ ((((w.alloc (ffblk (m : Int))).alloc (eblk (m : Int) a)).alloc (eblk (m : Int) b)).alloc (eblk (m : Int) c)).heap[w.heap.size + 1]? = some (eblk (m : Int) a) ∧ ((((w.alloc (ffblk (m : Int))).alloc (eblk (m : Int) a)).alloc (eblk (m : Int) b)).alloc (eblk (m : Int) c)).heap[w.heap.size + 2]? = some (eblk (m : Int) b) ∧ ((((w.alloc (ffblk (m : Int))).alloc (eblk (m : Int) a)).alloc (eblk (m : Int) b)).alloc (eblk (m : Int) c)).heap[w.heap.size + 3]? = some (eblk (m : Int) c)) := Lib.hid (by
    obtain ⟨t0, t1, t2⟩ := three w (ffblk (m : Int)) (eblk (m : Int) a) (eblk (m : Int) b)
    refine ⟨(Below.heap_alloc _ _ _ (by first | omega | (simp; done) | (simp; omega))).trans t0, (Below.heap_alloc _ _ _ (by first | omega | (simp; done) | (simp; omega))).trans t1, (Below.heap_alloc _ _ _ (by first | omega | (simp; done) | (simp; omega))).trans t2, ?_⟩
    have := heap_alloc_new (((w.alloc (ffblk (m : Int))).alloc (eblk (m : Int) a)).alloc (eblk (m : Int) b)) (eblk (m : Int) c)
    simpa using this)
  go_wp2_with fail
  refine (HC.out _).mono ?_
  rintro e w3 ⟨rfl, hb3⟩
  have HKEEP : Hid (∀ w', Below (w.heap.size + 4) ((((w.alloc (ffblk (m : Int))).alloc (eblk (m : Int) a)).alloc (eblk (m : Int) b)).alloc (eblk (m : Int) c)) w' → w'.cell? ⟨w.heap.size, 0, none⟩ = some (.int .i64 m) ∧ w'.cell? ⟨w.heap.size, 1, none⟩ = some (.int .i64 (pr m)) ∧ w'.cell? ⟨w.heap.size, 2, none⟩ = some (.int .i64 (pl m)) ∧ w'.cell? ⟨w.heap.size + 1, 0, none⟩ = some (.int .i64 m) ∧ w'.cell? ⟨w.heap.size + 1, 1, none⟩ = some (.int .i64 (pr m)) ∧ w'.cell? ⟨w.heap.size + 1, 2, none⟩ = some (.int .i64 (pl m)) ∧ w'.cell? ⟨w.heap.size + 1, 3, none⟩ = some (.int .i64 (dg m a 0)) ∧ w'.cell? ⟨w.heap.size + 1, 4, none⟩ = some (.int .i64 (dg m a 1)) ∧ w'.cell? ⟨w.heap.size + 1, 5, none⟩ = some (.int .i64 (dg m a 2)) ∧ w'.cell? ⟨w.heap.size + 1, 6, none⟩ = some (.int .i64 (dg m a 3)) ∧ w'.cell? ⟨w.heap.size + 2, 0, none⟩ = some (.int .i64 m) ∧ w'.cell? ⟨w.heap.size + 2, 1, none⟩ = some (.int .i64 (pr m)) ∧ w'.cell? ⟨w.heap.size + 2, 2, none⟩ = some (.int .i64 (pl m)) ∧ w'.cell? ⟨w.heap.size + 2, 3, none⟩ = some (.int .i64 (dg m b 0)) ∧ w'.cell? ⟨w.heap.size + 2, 4, none⟩ = some (.int .i64 (dg m b 1)) ∧ w'.cell? ⟨w.heap.size + 2, 5, none⟩ = some (.int .i64 (dg m b 2)) ∧ w'.cell? ⟨w.heap.size + 2, 6, none⟩ = some (.int .i64 (dg m b 3)) ∧ w'.cell? ⟨w.heap.size + 3, 0, none⟩ = some (.int .i64 m) ∧ w'.cell? ⟨w.heap.size + 3, 1, none⟩ = some (.int .i64 (pr m)) ∧ w'.cell? ⟨w.heap.size + 3, 2, none⟩ = some (.int .i64 (pl m)) ∧ w'.cell? ⟨w.heap.size + 3, 3, none⟩ = some (.int .i64 (dg m c 0)) ∧ w'.cell? ⟨w.heap.size + 3, 4, none⟩ = some (.int .i64 (dg m c 1)) ∧ w'.cell? ⟨w.heap.size + 3, 5, none⟩ = some (.int .i64 (dg m c 2)) ∧ w'.cell? ⟨w.heap.size + 3, 6, none⟩ = some (.int .i64 (dg m c 3))) := Lib.hid fun w' hb => by
    obtain ⟨x0, x1, x2, _⟩ := cells3' ((hb.block w.heap.size (by omega)).trans HW4.out.1)
    obtain ⟨a0, a1, a2, a3, a4, a5, a6, _⟩ := seven ((hb.block (w.heap.size + 1) (by omega)).trans HW4.out.2.1)
    obtain ⟨b0, b1, b2, b3, b4, b5, b6, _⟩ := seven ((hb.block (w.heap.size + 2) (by omega)).trans HW4.out.2.2.1)
    obtain ⟨c0, c1, c2, c3, c4, c5, c6, _⟩ := seven ((hb.block (w.heap.size + 3) (by omega)).trans HW4.out.2.2.2)
    exact ⟨x0, x1, x2, a0, a1, a2, a3, a4, a5, a6, b0, b1, b2, b3, b4, b5, b6, c0, c1, c2, c3, c4, c5, c6⟩
  have hb3' : Below (w.heap.size + 4) ((((w.alloc (ffblk (m : Int))).alloc (eblk (m : Int) a)).alloc (eblk (m : Int) b)).alloc (eblk (m : Int) c)) w3 := by (repeat' (first | (with_reducible assumption) | (with_reducible exact Below.refl _ _) | (with_reducible refine below_drewN ?_ _) | (with_reducible refine Below.drew ?_) | (with_reducible refine Below.alloc ?_ ?_ _) | (with_reducible refine Below.setCell ?_ ?_ _) | (with_reducible refine Below.trans ?_ (Below.mono (by assumption) ?_)) | (with_reducible exact Nat.le_refl _) | (with_reducible assumption) | omega | (simp; omega) | (simp; done)))
  have hz3 := hb3'.size
  simp at hz3
  have HB3 := Lib.hid hb3'
  clear hb3 hb3'
  have heq := HEQ.out
  go_wp2_with fail
  go_region_held3 (fun w' => w'.cell? ⟨w.heap.size, 0, none⟩ = some (.int .i64 m) ∧ w'.cell? ⟨w.heap.size, 1, none⟩ = some (.int .i64 (pr m)) ∧ w'.cell? ⟨w.heap.size, 2, none⟩ = some (.int .i64 (pl m)) ∧ w'.cell? ⟨w.heap.size + 1, 0, none⟩ = some (.int .i64 m) ∧ w'.cell? ⟨w.heap.size + 1, 1, none⟩ = some (.int .i64 (pr m)) ∧ w'.cell? ⟨w.heap.size + 1, 2, none⟩ = some (.int .i64 (pl m)) ∧ w'.cell? ⟨w.heap.size + 1, 3, none⟩ = some (.int .i64 (dg m a 0)) ∧ w'.cell? ⟨w.heap.size + 1, 4, none⟩ = some (.int .i64 (dg m a 1)) ∧ w'.cell? ⟨w.heap.size + 1, 5, none⟩ = some (.int .i64 (dg m a 2)) ∧ w'.cell? ⟨w.heap.size + 1, 6, none⟩ = some (.int .i64 (dg m a 3)) ∧ w'.cell? ⟨w.heap.size + 2, 0, none⟩ = some (.int .i64 m) ∧ w'.cell? ⟨w.heap.size + 2, 1, none⟩ = some (.int .i64 (pr m)) ∧ w'.cell? ⟨w.heap.size + 2, 2, none⟩ = some (.int .i64 (pl m)) ∧ w'.cell? ⟨w.heap.size + 2, 3, none⟩ = some (.int .i64 (dg m b 0)) ∧ w'.cell? ⟨w.heap.size + 2, 4, none⟩ = some (.int .i64 (dg m b 1)) ∧ w'.cell? ⟨w.heap.size + 2, 5, none⟩ = some (.int .i64 (dg m b 2)) ∧ w'.cell? ⟨w.heap.size + 2, 6, none⟩ = some (.int .i64 (dg m b 3)) ∧ w'.cell? ⟨w.heap.size + 3, 0, none⟩ = some (.int .i64 m) ∧ w'.cell? ⟨w.heap.size + 3, 1, none⟩ = some (.int .i64 (pr m)) ∧ w'.cell? ⟨w.heap.size + 3, 2, none⟩ = some (.int .i64 (pl m)) ∧ w'.cell? ⟨w.heap.size + 3, 3, none⟩ = some (.int .i64 (dg m c 0)) ∧ w'.cell? ⟨w.heap.size + 3, 4, none⟩ = some (.int .i64 (dg m c 1)) ∧ w'.cell? ⟨w.heap.size + 3, 5, none⟩ = some (.int .i64 (dg m c 2)) ∧ w'.cell? ⟨w.heap.size + 3, 6, none⟩ = some (.int .i64 (dg m c 3)))
    (exact HKEEP.out _ (by have hb3 := HB3.out; (try have hb4 := HB4.out); (try have hb5 := HB5.out); (try have hb6 := HB6.out); (repeat' (first | (with_reducible assumption) | (with_reducible exact Below.refl _ _) | (with_reducible refine below_drewN ?_ _) | (with_reducible refine Below.drew ?_) | (with_reducible refine Below.alloc ?_ ?_ _) | (with_reducible refine Below.setCell ?_ ?_ _) | (with_reducible refine Below.trans ?_ (Below.mono (by assumption) ?_)) | (with_reducible exact Nat.le_refl _) | (with_reducible assumption) | omega | (simp; omega) | (simp; done)))))
    (first
    | (go_at_call_of 50 (dg (m : Int) b 0); refine (HT1.out _).mono ?_; rintro e w4 ⟨rfl, hb4⟩; obtain ⟨hc4, hf4⟩ := bcell hb4; (try simp only [World.size_drew] at hc4 hf4); have hz4 := hb4.size; (try simp at hz4); have HB4 := Lib.hid hb4; clear hb4)
    | (go_at_call_of 50 (dg (m : Int) a 0); refine (HT2.out _).mono ?_; rintro e w5 ⟨rfl, hb5⟩; obtain ⟨hc5, hf5⟩ := bcell hb5; (try simp only [World.size_drew] at hc5 hf5); have hz5 := hb5.size; (try simp at hz5); have HB5 := Lib.hid hb5; clear hb5)
    | (go_at_call 70; refine (HSC.out _).mono ?_; rintro e w6 ⟨rfl, hb6⟩; obtain ⟨hc6, hf6⟩ := bcell hb6; (try simp only [World.size_drew] at hc6 hf6); have hz6 := hb6.size; (try simp at hz6); have HB6 := Lib.hid hb6; clear hb6))
  all_goals
    have hb6' : Below (w.heap.size + 4) ((((w.alloc (ffblk (m : Int))).alloc (eblk (m : Int) a)).alloc (eblk (m : Int) b)).alloc (eblk (m : Int) c)) w6 := by have hb3 := HB3.out; have hb4 := HB4.out; have hb5 := HB5.out; have hb6 := HB6.out; (repeat' (first | (with_reducible assumption) | (with_reducible exact Below.refl _ _) | (with_reducible refine below_drewN ?_ _) | (with_reducible refine Below.drew ?_) | (with_reducible refine Below.alloc ?_ ?_ _) | (with_reducible refine Below.setCell ?_ ?_ _) | (with_reducible refine Below.trans ?_ (Below.mono (by assumption) ?_)) | (with_reducible exact Nat.le_refl _) | (with_reducible assumption) | omega | (simp; omega) | (simp; done)))
    obtain ⟨x0, x1, x2, a0, a1, a2, a3, a4, a5, a6, b0, b1, b2, b3, b4, b5, b6, c0, c1, c2, c3, c4, c5, c6⟩ := HKEEP.out w6 hb6'
    have hz6 := hb6'.size
    simp at hz6
    have l6 : w.heap.size < w6.heap.size := by omega
    clear HB6 HB5 HB4 heq
    have HB6 := Lib.hid hb6'
    clear hb6'
    go_wp2_with fail
    go_region_with (go_at_call 48; refine (HF.out _).mono ?_; rintro e w7 ⟨rfl, hb7⟩; obtain ⟨hc7, hf7⟩ := bcell hb7; (try simp only [World.size_drew] at hc7 hf7); have hz7 := hb7.size; (try simp at hz7); have HB7 := Lib.hid hb7; clear hb7; have l7 : w.heap.size < w7.heap.size := (by omega))
    all_goals
      go_wp2
      go_ret
      have hb6 := HB6.out
      have hb7 := HB7.out
      exact ⟨rfl, by (repeat' (first | (with_reducible assumption) | (with_reducible exact Below.refl _ _) | (with_reducible refine below_drewN ?_ _) | (with_reducible refine Below.drew ?_) | (with_reducible refine Below.alloc ?_ ?_ _) | (with_reducible refine Below.setCell ?_ ?_ _) | (with_reducible refine Below.trans ?_ (Below.mono (by assumption) ?_)) | (with_reducible exact Nat.le_refl _) | (with_reducible assumption) | omega | (simp; omega) | (simp; done)))⟩
set_option maxRecDepth 100000 in
set_option maxHeartbeats 4000000 in
/-- impl.field.quadraticSum, where the square is another. -/
theorem quadraticSum_other (m : Nat) (a b c : Int) (w : World) (h : isSz (m : Int) = true) (ha : El (m : Int) a) (hb : El (m : Int) b) (hc : El (m : Int) c) (hd : ¬ mulF m b b = tim m (mulF m a c) 4) :
    Calls Try.prog 32 #[fdE (m : Int), elE (m : Int) a, elE (m : Int) b, elE (m : Int) c] w fun e w' => e = .returned (.int .i64 (-chi m a)) ∧ Below w.heap.size w w' := by
  have hq := isSz_le (m : Int) h
  have HC := Lib.hid (fun w => charactersE m w h)
  have HT1 := Lib.hid (fun w => timesE (m : Int) b b w h hb.1 hb.2 hb.1 hb.2)
  have HT2 := Lib.hid (fun w => timesE (m : Int) a c w h ha.1 ha.2 hc.1 hc.2)
  have hbb := hb.mul h hb
  have hac := ha.mul h hc
  have ht4 := tim_el h hac 4
  have HSC := Lib.hid (fun w => timE (m : Int) (mulF m a c) 4 w h hac (by omega))
  have HEQ := Lib.hid (fun w => eq_dgq (m : Int) (mulF m b b) (tim m (mulF m a c) 4) h hbb ht4 w)
  rw [decide_eq_false hd] at HEQ
  have HF := Lib.hid (fun w => ofE m a w h ha)
  have hu := chi_bd m a
  have hmu := mul_sign hu (k := (m : Int) - 1) (by omega) (by omega)
  rw [Int.mul_comm] at hmu
  clear h ha hb hc hbb hac ht4 hd
  change Hid (∀ w, Calls _ _ #[_, .int .i64 4] _ _) at HSC
  generalize tim (m : Int) (mulF m a c) 4 = x3 at *
  generalize mulF (m : Int) a c = x2 at *
  generalize mulF (m : Int) b b = x1 at *
  generalize chi (m : Int) a = u at *
  generalize CH (chN m m) = A at *
  have hwm : IntKind.i64.wrap ((m : Int) - 1) = (m : Int) - 1 := IntWalk.i64_in _ (by omega)
  have hwn : IntKind.i64.wrap (-u) = -u := IntWalk.i64_in _ (by omega)
  obtain ⟨p, hp⟩ : ∃ p, u * ((m : Int) - 1) = p := ⟨_, rfl⟩
  rw [hp] at hmu
  have hwp : IntKind.i64.wrap (u * ((m : Int) - 1)) = p := by rw [hp]; exact IntWalk.i64_in _ (by omega)
  clear hp
  go_enter Try.func32, Try.ntmps32
  have HW4 : Hid (((((w.alloc (ffblk (m : Int))).alloc (eblk (m : Int) a)).alloc (eblk (m : Int) b)).alloc (eblk (m : Int) c)).heap[w.heap.size]? = some (ffblk (m : Int)) ∧ ((((w.alloc (ffblk (m : Int))).alloc (eblk (m : Int) a)).alloc (eblk (m : Int) b)).alloc (eblk (m : Int) c)).heap[w.heap.size + 1]? = some (eblk (m : Int) a) ∧ ((((w.alloc (ffblk (m : Int))).alloc (eblk (m : Int) a)).alloc (eblk (m : Int) b)).alloc (eblk (m : Int) c)).heap[w.heap.size + 2]? = some (eblk (m : Int) b) ∧ ((((w.alloc (ffblk (m : Int))).alloc (eblk (m : Int) a)).alloc (eblk (m : Int) b)).alloc (eblk (m : Int) c)).heap[w.heap.size + 3]? = some (eblk (m : Int) c)) := Lib.hid (by
    obtain ⟨t0, t1, t2⟩ := three w (ffblk (m : Int)) (eblk (m : Int) a) (eblk (m : Int) b)
    refine ⟨(Below.heap_alloc _ _ _ (by first | omega | (simp; done) | (simp; omega))).trans t0, (Below.heap_alloc _ _ _ (by first | omega | (simp; done) | (simp; omega))).trans t1, (Below.heap_alloc _ _ _ (by first | omega | (simp; done) | (simp; omega))).trans t2, ?_⟩
    have := heap_alloc_new (((w.alloc (ffblk (m : Int))).alloc (eblk (m : Int) a)).alloc (eblk (m : Int) b)) (eblk (m : Int) c)
    simpa using this)
  go_wp2_with fail
  refine (HC.out _).mono ?_
  rintro e w3 ⟨rfl, hb3⟩
  have HKEEP : Hid (∀ w', Below (w.heap.size + 4) ((((w.alloc (ffblk (m : Int))).alloc (eblk (m : Int) a)).alloc (eblk (m : Int) b)).alloc (eblk (m : Int) c)) w' → w'.cell? ⟨w.heap.size, 0, none⟩ = some (.int .i64 m) ∧ w'.cell? ⟨w.heap.size, 1, none⟩ = some (.int .i64 (pr m)) ∧ w'.cell? ⟨w.heap.size, 2, none⟩ = some (.int .i64 (pl m)) ∧ w'.cell? ⟨w.heap.size + 1, 0, none⟩ = some (.int .i64 m) ∧ w'.cell? ⟨w.heap.size + 1, 1, none⟩ = some (.int .i64 (pr m)) ∧ w'.cell? ⟨w.heap.size + 1, 2, none⟩ = some (.int .i64 (pl m)) ∧ w'.cell? ⟨w.heap.size + 1, 3, none⟩ = some (.int .i64 (dg m a 0)) ∧ w'.cell? ⟨w.heap.size + 1, 4, none⟩ = some (.int .i64 (dg m a 1)) ∧ w'.cell? ⟨w.heap.size + 1, 5, none⟩ = some (.int .i64 (dg m a 2)) ∧ w'.cell? ⟨w.heap.size + 1, 6, none⟩ = some (.int .i64 (dg m a 3)) ∧ w'.cell? ⟨w.heap.size + 2, 0, none⟩ = some (.int .i64 m) ∧ w'.cell? ⟨w.heap.size + 2, 1, none⟩ = some (.int .i64 (pr m)) ∧ w'.cell? ⟨w.heap.size + 2, 2, none⟩ = some (.int .i64 (pl m)) ∧ w'.cell? ⟨w.heap.size + 2, 3, none⟩ = some (.int .i64 (dg m b 0)) ∧ w'.cell? ⟨w.heap.size + 2, 4, none⟩ = some (.int .i64 (dg m b 1)) ∧ w'.cell? ⟨w.heap.size + 2, 5, none⟩ = some (.int .i64 (dg m b 2)) ∧ w'.cell? ⟨w.heap.size + 2, 6, none⟩ = some (.int .i64 (dg m b 3)) ∧ w'.cell? ⟨w.heap.size + 3, 0, none⟩ = some (.int .i64 m) ∧ w'.cell? ⟨w.heap.size + 3, 1, none⟩ = some (.int .i64 (pr m)) ∧ w'.cell? ⟨w.heap.size + 3, 2, none⟩ = some (.int .i64 (pl m)) ∧ w'.cell? ⟨w.heap.size + 3, 3, none⟩ = some (.int .i64 (dg m c 0)) ∧ w'.cell? ⟨w.heap.size + 3, 4, none⟩ = some (.int .i64 (dg m c 1)) ∧ w'.cell? ⟨w.heap.size + 3, 5, none⟩ = some (.int .i64 (dg m c 2)) ∧ w'.cell? ⟨w.heap.size + 3, 6, none⟩ = some (.int .i64 (dg m c 3))) := Lib.hid fun w' hb => by
    obtain ⟨x0, x1, x2, _⟩ := cells3' ((hb.block w.heap.size (by omega)).trans HW4.out.1)
    obtain ⟨a0, a1, a2, a3, a4, a5, a6, _⟩ := seven ((hb.block (w.heap.size + 1) (by omega)).trans HW4.out.2.1)
    obtain ⟨b0, b1, b2, b3, b4, b5, b6, _⟩ := seven ((hb.block (w.heap.size + 2) (by omega)).trans HW4.out.2.2.1)
    obtain ⟨c0, c1, c2, c3, c4, c5, c6, _⟩ := seven ((hb.block (w.heap.size + 3) (by omega)).trans HW4.out.2.2.2)
    exact ⟨x0, x1, x2, a0, a1, a2, a3, a4, a5, a6, b0, b1, b2, b3, b4, b5, b6, c0, c1, c2, c3, c4, c5, c6⟩
  have hb3' : Below (w.heap.size + 4) ((((w.alloc (ffblk (m : Int))).alloc (eblk (m : Int) a)).alloc (eblk (m : Int) b)).alloc (eblk (m : Int) c)) w3 := by (repeat' (first | (with_reducible assumption) | (with_reducible exact Below.refl _ _) | (with_reducible refine below_drewN ?_ _) | (with_reducible refine Below.drew ?_) | (with_reducible refine Below.alloc ?_ ?_ _) | (with_reducible refine Below.setCell ?_ ?_ _) | (with_reducible refine Below.trans ?_ (Below.mono (by assumption) ?_)) | (with_reducible exact Nat.le_refl _) | (with_reducible assumption) | omega | (simp; omega) | (simp; done)))
  have hz3 := hb3'.size
  simp at hz3
  have HB3 := Lib.hid hb3'
  clear hb3 hb3'
  have heq := HEQ.out
  go_wp2_with fail
  go_region_held3 (fun w' => w'.cell? ⟨w.heap.size, 0, none⟩ = some (.int .i64 m) ∧ w'.cell? ⟨w.heap.size, 1, none⟩ = some (.int .i64 (pr m)) ∧ w'.cell? ⟨w.heap.size, 2, none⟩ = some (.int .i64 (pl m)) ∧ w'.cell? ⟨w.heap.size + 1, 0, none⟩ = some (.int .i64 m) ∧ w'.cell? ⟨w.heap.size + 1, 1, none⟩ = some (.int .i64 (pr m)) ∧ w'.cell? ⟨w.heap.size + 1, 2, none⟩ = some (.int .i64 (pl m)) ∧ w'.cell? ⟨w.heap.size + 1, 3, none⟩ = some (.int .i64 (dg m a 0)) ∧ w'.cell? ⟨w.heap.size + 1, 4, none⟩ = some (.int .i64 (dg m a 1)) ∧ w'.cell? ⟨w.heap.size + 1, 5, none⟩ = some (.int .i64 (dg m a 2)) ∧ w'.cell? ⟨w.heap.size + 1, 6, none⟩ = some (.int .i64 (dg m a 3)) ∧ w'.cell? ⟨w.heap.size + 2, 0, none⟩ = some (.int .i64 m) ∧ w'.cell? ⟨w.heap.size + 2, 1, none⟩ = some (.int .i64 (pr m)) ∧ w'.cell? ⟨w.heap.size + 2, 2, none⟩ = some (.int .i64 (pl m)) ∧ w'.cell? ⟨w.heap.size + 2, 3, none⟩ = some (.int .i64 (dg m b 0)) ∧ w'.cell? ⟨w.heap.size + 2, 4, none⟩ = some (.int .i64 (dg m b 1)) ∧ w'.cell? ⟨w.heap.size + 2, 5, none⟩ = some (.int .i64 (dg m b 2)) ∧ w'.cell? ⟨w.heap.size + 2, 6, none⟩ = some (.int .i64 (dg m b 3)) ∧ w'.cell? ⟨w.heap.size + 3, 0, none⟩ = some (.int .i64 m) ∧ w'.cell? ⟨w.heap.size + 3, 1, none⟩ = some (.int .i64 (pr m)) ∧ w'.cell? ⟨w.heap.size + 3, 2, none⟩ = some (.int .i64 (pl m)) ∧ w'.cell? ⟨w.heap.size + 3, 3, none⟩ = some (.int .i64 (dg m c 0)) ∧ w'.cell? ⟨w.heap.size + 3, 4, none⟩ = some (.int .i64 (dg m c 1)) ∧ w'.cell? ⟨w.heap.size + 3, 5, none⟩ = some (.int .i64 (dg m c 2)) ∧ w'.cell? ⟨w.heap.size + 3, 6, none⟩ = some (.int .i64 (dg m c 3)))
    (exact HKEEP.out _ (by have hb3 := HB3.out; (try have hb4 := HB4.out); (try have hb5 := HB5.out); (try have hb6 := HB6.out); (repeat' (first | (with_reducible assumption) | (with_reducible exact Below.refl _ _) | (with_reducible refine below_drewN ?_ _) | (with_reducible refine Below.drew ?_) | (with_reducible refine Below.alloc ?_ ?_ _) | (with_reducible refine Below.setCell ?_ ?_ _) | (with_reducible refine Below.trans ?_ (Below.mono (by assumption) ?_)) | (with_reducible exact Nat.le_refl _) | (with_reducible assumption) | omega | (simp; omega) | (simp; done)))))
    (first
    | (go_at_call_of 50 (dg (m : Int) b 0); refine (HT1.out _).mono ?_; rintro e w4 ⟨rfl, hb4⟩; obtain ⟨hc4, hf4⟩ := bcell hb4; (try simp only [World.size_drew] at hc4 hf4); have hz4 := hb4.size; (try simp at hz4); have HB4 := Lib.hid hb4; clear hb4)
    | (go_at_call_of 50 (dg (m : Int) a 0); refine (HT2.out _).mono ?_; rintro e w5 ⟨rfl, hb5⟩; obtain ⟨hc5, hf5⟩ := bcell hb5; (try simp only [World.size_drew] at hc5 hf5); have hz5 := hb5.size; (try simp at hz5); have HB5 := Lib.hid hb5; clear hb5)
    | (go_at_call 70; refine (HSC.out _).mono ?_; rintro e w6 ⟨rfl, hb6⟩; obtain ⟨hc6, hf6⟩ := bcell hb6; (try simp only [World.size_drew] at hc6 hf6); have hz6 := hb6.size; (try simp at hz6); have HB6 := Lib.hid hb6; clear hb6))
  all_goals
    have hb6' : Below (w.heap.size + 4) ((((w.alloc (ffblk (m : Int))).alloc (eblk (m : Int) a)).alloc (eblk (m : Int) b)).alloc (eblk (m : Int) c)) w6 := by have hb3 := HB3.out; have hb4 := HB4.out; have hb5 := HB5.out; have hb6 := HB6.out; (repeat' (first | (with_reducible assumption) | (with_reducible exact Below.refl _ _) | (with_reducible refine below_drewN ?_ _) | (with_reducible refine Below.drew ?_) | (with_reducible refine Below.alloc ?_ ?_ _) | (with_reducible refine Below.setCell ?_ ?_ _) | (with_reducible refine Below.trans ?_ (Below.mono (by assumption) ?_)) | (with_reducible exact Nat.le_refl _) | (with_reducible assumption) | omega | (simp; omega) | (simp; done)))
    obtain ⟨x0, x1, x2, a0, a1, a2, a3, a4, a5, a6, b0, b1, b2, b3, b4, b5, b6, c0, c1, c2, c3, c4, c5, c6⟩ := HKEEP.out w6 hb6'
    have hz6 := hb6'.size
    simp at hz6
    have l6 : w.heap.size < w6.heap.size := by omega
    clear HB6 HB5 HB4 heq
    have HB6 := Lib.hid hb6'
    clear hb6'
    go_wp2_with fail
    refine (HF.out _).mono ?_
    rintro e w7 ⟨rfl, hb7⟩
    have hb6 := HB6.out
    have HB7 : Hid (Below w.heap.size w w7) := Lib.hid (by (repeat' (first | (with_reducible assumption) | (with_reducible exact Below.refl _ _) | (with_reducible refine below_drewN ?_ _) | (with_reducible refine Below.drew ?_) | (with_reducible refine Below.alloc ?_ ?_ _) | (with_reducible refine Below.setCell ?_ ?_ _) | (with_reducible refine Below.trans ?_ (Below.mono (by assumption) ?_)) | (with_reducible exact Nat.le_refl _) | (with_reducible assumption) | omega | (simp; omega) | (simp; done))))
    clear hb7 hb6
    go_wp2
    go_ret
    exact ⟨rfl, HB7.out⟩
theorem spec_QuadraticSum_no (q a b c : Int) (w : World) (hn : qok q a b c = false) :
    Calls Try.prog 7 #[.int .i64 q, .int .i64 a, .int .i64 b, .int .i64 c] w fun e w' => e = .returned (.tuple #[.int .i64 0, .bool false]) ∧ Below w.heap.size w w' := by
  have HO := Lib.hid (fun w => ctOdd_any q w)
  have HA := Lib.hid (fun w => fdIn_any q a w)
  have HB := Lib.hid (fun w => fdIn_any q b w)
  have HC := Lib.hid (fun w => fdIn_any q c w)
  cases ho : odq q with
  | false =>
    rw [ho] at HO
    clear hn ho
    go_enter Try.func7, Try.ntmps7
    go_wp2_with fail
    refine (HO.out _).mono ?_
    rintro e w1 ⟨rfl, hb1⟩
    have hz_hb1 := hb1.size; (try simp at hz_hb1)
    go_wp2
    go_ret2
    exact ⟨rfl, by (repeat' (first | (with_reducible assumption) | (with_reducible exact Below.refl _ _) | (with_reducible refine below_drewN ?_ _) | (with_reducible refine Below.drew ?_) | (with_reducible refine Below.alloc ?_ ?_ _) | (with_reducible refine Below.setCell ?_ ?_ _) | (with_reducible refine Below.trans ?_ (Below.mono (by assumption) ?_)) | (with_reducible exact Nat.le_refl _) | (with_reducible assumption) | omega | (simp; omega) | (simp; done)))⟩
  | true =>
    rw [ho] at HO
    cases ha : inE q a with
    | false =>
      rw [ha] at HA
      clear hn ho ha
      go_enter Try.func7, Try.ntmps7
      go_wp2_with fail
      refine (HO.out _).mono ?_
      rintro e w1 ⟨rfl, hb1⟩
      have hz_hb1 := hb1.size; (try simp at hz_hb1)
      go_wp2_with fail
      refine (HA.out _).mono ?_
      rintro e w2 ⟨rfl, hb2⟩
      have hz_hb2 := hb2.size; (try simp at hz_hb2)
      go_wp2
      go_ret2
      exact ⟨rfl, by (repeat' (first | (with_reducible assumption) | (with_reducible exact Below.refl _ _) | (with_reducible refine below_drewN ?_ _) | (with_reducible refine Below.drew ?_) | (with_reducible refine Below.alloc ?_ ?_ _) | (with_reducible refine Below.setCell ?_ ?_ _) | (with_reducible refine Below.trans ?_ (Below.mono (by assumption) ?_)) | (with_reducible exact Nat.le_refl _) | (with_reducible assumption) | omega | (simp; omega) | (simp; done)))⟩
    | true =>
      rw [ha] at HA
      cases hb : inE q b with
      | false =>
        rw [hb] at HB
        clear hn ho ha hb
        go_enter Try.func7, Try.ntmps7
        go_wp2_with fail
        refine (HO.out _).mono ?_
        rintro e w1 ⟨rfl, hb1⟩
        have hz_hb1 := hb1.size; (try simp at hz_hb1)
        go_wp2_with fail
        refine (HA.out _).mono ?_
        rintro e w2 ⟨rfl, hb2⟩
        have hz_hb2 := hb2.size; (try simp at hz_hb2)
        go_wp2_with fail
        refine (HB.out _).mono ?_
        rintro e w3 ⟨rfl, hb3⟩
        have hz_hb3 := hb3.size; (try simp at hz_hb3)
        go_wp2
        go_ret2
        exact ⟨rfl, by (repeat' (first | (with_reducible assumption) | (with_reducible exact Below.refl _ _) | (with_reducible refine below_drewN ?_ _) | (with_reducible refine Below.drew ?_) | (with_reducible refine Below.alloc ?_ ?_ _) | (with_reducible refine Below.setCell ?_ ?_ _) | (with_reducible refine Below.trans ?_ (Below.mono (by assumption) ?_)) | (with_reducible exact Nat.le_refl _) | (with_reducible assumption) | omega | (simp; omega) | (simp; done)))⟩
      | true =>
        rw [hb] at HB
        cases hc : inE q c with
        | false =>
          rw [hc] at HC
          clear hn ho ha hb hc
          go_enter Try.func7, Try.ntmps7
          go_wp2_with fail
          refine (HO.out _).mono ?_
          rintro e w1 ⟨rfl, hb1⟩
          have hz_hb1 := hb1.size; (try simp at hz_hb1)
          go_wp2_with fail
          refine (HA.out _).mono ?_
          rintro e w2 ⟨rfl, hb2⟩
          have hz_hb2 := hb2.size; (try simp at hz_hb2)
          go_wp2_with fail
          refine (HB.out _).mono ?_
          rintro e w3 ⟨rfl, hb3⟩
          have hz_hb3 := hb3.size; (try simp at hz_hb3)
          go_wp2_with fail
          refine (HC.out _).mono ?_
          rintro e w4 ⟨rfl, hb4⟩
          have hz_hb4 := hb4.size; (try simp at hz_hb4)
          go_wp2
          go_ret2
          exact ⟨rfl, by (repeat' (first | (with_reducible assumption) | (with_reducible exact Below.refl _ _) | (with_reducible refine below_drewN ?_ _) | (with_reducible refine Below.drew ?_) | (with_reducible refine Below.alloc ?_ ?_ _) | (with_reducible refine Below.setCell ?_ ?_ _) | (with_reducible refine Below.trans ?_ (Below.mono (by assumption) ?_)) | (with_reducible exact Nat.le_refl _) | (with_reducible assumption) | omega | (simp; omega) | (simp; done)))⟩
        | true =>
          rw [hc] at HC
          have h0 : a = 0 := by
            simp only [odq, Bool.and_eq_true] at ho
            simp [qok, inN, odp, ha, hb, hc, ho.2] at hn
            exact hn
          subst h0
          clear hn ho ha hb hc
          go_enter Try.func7, Try.ntmps7
          go_wp2_with fail
          refine (HO.out _).mono ?_
          rintro e w1 ⟨rfl, hb1⟩
          have hz_hb1 := hb1.size; (try simp at hz_hb1)
          go_wp2_with fail
          refine (HA.out _).mono ?_
          rintro e w2 ⟨rfl, hb2⟩
          have hz_hb2 := hb2.size; (try simp at hz_hb2)
          go_wp2_with fail
          refine (HB.out _).mono ?_
          rintro e w3 ⟨rfl, hb3⟩
          have hz_hb3 := hb3.size; (try simp at hz_hb3)
          go_wp2_with fail
          refine (HC.out _).mono ?_
          rintro e w4 ⟨rfl, hb4⟩
          have hz_hb4 := hb4.size; (try simp at hz_hb4)
          go_wp2
          go_ret2
          exact ⟨rfl, by (repeat' (first | (with_reducible assumption) | (with_reducible exact Below.refl _ _) | (with_reducible refine below_drewN ?_ _) | (with_reducible refine Below.drew ?_) | (with_reducible refine Below.alloc ?_ ?_ _) | (with_reducible refine Below.setCell ?_ ?_ _) | (with_reducible refine Below.trans ?_ (Below.mono (by assumption) ?_)) | (with_reducible exact Nat.le_refl _) | (with_reducible assumption) | omega | (simp; omega) | (simp; done)))⟩
theorem nonzeroOf_not (q a : Int) (w : World) (h : inN q a = false) :
    Calls Try.prog 30 #[.int .i64 q, .int .i64 a] w fun e w' => e = .returned (.tuple #[elZ, .bool false]) ∧ Below w.heap.size w w' := by
  cases hi : inE q a with
  | false => exact nonzeroOf_no1 q a w hi
  | true =>
    unfold inN at h
    rw [hi, Bool.true_and, Bool.not_eq_false', decide_eq_true_iff] at h
    subst h
    exact nonzeroOf_no2 q w (inE_yes hi).1
theorem impl_QuadraticSum_no1 (q a b c : Int) (w : World) (h1 : inN q a = false) (h2 : odp q b c = false) :
    Calls Try.prog 6 #[.int .i64 q, .int .i64 a, .int .i64 b, .int .i64 c] w fun e w' => e = .returned (.tuple #[.int .i64 0, .bool false]) ∧ Below w.heap.size w w' := by
  have H1 := Lib.hid (fun w => nonzeroOf_not q a w h1)
  have H2 := Lib.hid (fun w => oddPairOf_no q b c w h2)
  clear h1 h2
  go_enter Try.func6, Try.ntmps6
  go_wp2_with fail
  refine (H1.out _).mono ?_
  rintro e w1 ⟨rfl, hb1⟩
  have HB1 := Lib.hid hb1; clear hb1
  go_wp2_with fail
  refine (H2.out _).mono ?_
  rintro e w2 ⟨rfl, hb2⟩
  have hz2 := hb2.size
  simp at hz2
  have HB2 := Lib.hid hb2; clear hb2
  go_wp2
  go_ret2
  have hb1 := HB1.out
  have hz1 := hb1.size
  have hb2 := HB2.out
  exact ⟨rfl, by (repeat' (first | (with_reducible assumption) | (with_reducible exact Below.refl _ _) | (with_reducible refine below_drewN ?_ _) | (with_reducible refine Below.drew ?_) | (with_reducible refine Below.alloc ?_ ?_ _) | (with_reducible refine Below.setCell ?_ ?_ _) | (with_reducible refine Below.trans ?_ (Below.mono (by assumption) ?_)) | (with_reducible exact Nat.le_refl _) | (with_reducible assumption) | omega | (simp; omega) | (simp; done)))⟩
theorem impl_QuadraticSum_no3 (q a b c : Int) (w : World) (h1 : inN q a = true) (h2 : odp q b c = false) :
    Calls Try.prog 6 #[.int .i64 q, .int .i64 a, .int .i64 b, .int .i64 c] w fun e w' => e = .returned (.tuple #[.int .i64 0, .bool false]) ∧ Below w.heap.size w w' := by
  have H1 := Lib.hid (fun w => nonzeroOf_yes q a w h1)
  have H2 := Lib.hid (fun w => oddPairOf_no q b c w h2)
  clear h1 h2
  go_enter Try.func6, Try.ntmps6
  go_wp2_with fail
  refine (H1.out _).mono ?_
  rintro e w1 ⟨rfl, hb1⟩
  have HB1 := Lib.hid hb1; clear hb1
  go_wp2_with fail
  refine (H2.out _).mono ?_
  rintro e w2 ⟨rfl, hb2⟩
  have hz2 := hb2.size
  simp at hz2
  have HB2 := Lib.hid hb2; clear hb2
  go_wp2
  go_ret2
  have hb1 := HB1.out
  have hz1 := hb1.size
  have hb2 := HB2.out
  exact ⟨rfl, by (repeat' (first | (with_reducible assumption) | (with_reducible exact Below.refl _ _) | (with_reducible refine below_drewN ?_ _) | (with_reducible refine Below.drew ?_) | (with_reducible refine Below.alloc ?_ ?_ _) | (with_reducible refine Below.setCell ?_ ?_ _) | (with_reducible refine Below.trans ?_ (Below.mono (by assumption) ?_)) | (with_reducible exact Nat.le_refl _) | (with_reducible assumption) | omega | (simp; omega) | (simp; done)))⟩
theorem impl_QuadraticSum_no2 (m : Nat) (a b c : Int) (w : World) (h1 : inN (m : Int) a = false) (h2 : inE (m : Int) b = true ∧ inE (m : Int) c = true ∧ (m : Int) % 2 = 1) :
    Calls Try.prog 6 #[.int .i64 m, .int .i64 a, .int .i64 b, .int .i64 c] w fun e w' => e = .returned (.tuple #[.int .i64 0, .bool false]) ∧ Below w.heap.size w w' := by
  have H1 := Lib.hid (fun w => nonzeroOf_not (m : Int) a w h1)
  have H2 := Lib.hid (fun w => oddPairOf_yes m b c w h2.1 h2.2.1 h2.2.2)
  clear h1 h2
  go_enter Try.func6, Try.ntmps6
  go_wp2_with fail
  refine (H1.out _).mono ?_
  rintro e w1 ⟨rfl, hb1⟩
  have HB1 := Lib.hid hb1; clear hb1
  go_wp2_with fail
  refine (H2.out _).mono ?_
  rintro e w2 ⟨rfl, hb2⟩
  have hz2 := hb2.size
  simp at hz2
  have HB2 := Lib.hid hb2; clear hb2
  go_wp2
  go_ret2
  have hb1 := HB1.out
  have hz1 := hb1.size
  have hb2 := HB2.out
  exact ⟨rfl, by (repeat' (first | (with_reducible assumption) | (with_reducible exact Below.refl _ _) | (with_reducible refine below_drewN ?_ _) | (with_reducible refine Below.drew ?_) | (with_reducible refine Below.alloc ?_ ?_ _) | (with_reducible refine Below.setCell ?_ ?_ _) | (with_reducible refine Below.trans ?_ (Below.mono (by assumption) ?_)) | (with_reducible exact Nat.le_refl _) | (with_reducible assumption) | omega | (simp; omega) | (simp; done)))⟩
theorem impl_QuadraticSum_no (q a b c : Int) (w : World) (hn : qok q a b c = false) :
    Calls Try.prog 6 #[.int .i64 q, .int .i64 a, .int .i64 b, .int .i64 c] w fun e w' => e = .returned (.tuple #[.int .i64 0, .bool false]) ∧ Below w.heap.size w w' := by
  cases hd : odp q b c with
  | false =>
    cases ha : inN q a with
    | false => exact impl_QuadraticSum_no1 q a b c w ha hd
    | true => exact impl_QuadraticSum_no3 q a b c w ha hd
  | true =>
    unfold qok at hn
    rw [hd, Bool.and_true] at hn
    obtain ⟨m, rfl, _, ho, hb, hc⟩ := odp_nat hd
    exact impl_QuadraticSum_no2 m a b c w hn ⟨hb, hc, ho⟩
set_option maxRecDepth 100000 in
set_option maxHeartbeats 4000000 in
theorem spec_QuadraticSum_told (m : Nat) (a b c : Int) (w : World) (h : isSz (m : Int) = true) (ho : (m : Int) % 2 = 1) (ha : inN (m : Int) a = true) (hb : inE (m : Int) b = true) (hc : inE (m : Int) c = true) (hd : mulF m b b = tim m (mulF m a c) 4) :
    Calls Try.prog 7 #[.int .i64 m, .int .i64 a, .int .i64 b, .int .i64 c] w fun e w' => e = .returned (.tuple #[.int .i64 (chi m a * ((m : Int) - 1)), .bool true]) ∧ Below w.heap.size w w' := by
  have hq := isSz_le (m : Int) h
  obtain ⟨ha2, _, a0, a1⟩ := inN_yes ha
  obtain ⟨_, b0, b1⟩ := inE_yes hb
  obtain ⟨_, c0, c1⟩ := inE_yes hc
  have HO := Lib.hid (fun w => ctOdd_any (m : Int) w)
  have hoq : odq (m : Int) = true := by unfold odq; rw [h, ho]; rfl
  rw [hoq] at HO
  have HA := Lib.hid (fun w => fdIn_any (m : Int) a w)
  have HB := Lib.hid (fun w => fdIn_any (m : Int) b w)
  have HC := Lib.hid (fun w => fdIn_any (m : Int) c w)
  rw [ha2] at HA
  rw [hb] at HB
  rw [hc] at HC
  have hxa : El (m : Int) a := ⟨by omega, a1⟩
  have hxb : El (m : Int) b := ⟨b0, b1⟩
  have hxc : El (m : Int) c := ⟨c0, c1⟩
  have hac := hxa.mul h hxc
  have hs := hac.add h hac
  have HT1 := Lib.hid (fun w => fdTimes_any (m : Int) a c w h hxa.1 hxa.2 c0 c1)
  have HP1 := Lib.hid (fun w => fdPlus_any (m : Int) (mulF m a c) (mulF m a c) w h hac.1 hac.2 hac.1 hac.2)
  have HT2 := Lib.hid (fun w => fdTimes_any (m : Int) b b w h b0 b1 b0 b1)
  have HP2 := Lib.hid (fun w => fdPlus_any (m : Int) (addF m (mulF m a c) (mulF m a c)) (addF m (mulF m a c) (mulF m a c)) w h hs.1 hs.2 hs.1 hs.2)
  rw [tim_four h hac] at HP2
  have HF := Lib.hid (fun w => ctOf_any m a w h ho hxa.1 hxa.2)
  have hu := chi_bd m a
  have hmu := mul_sign hu (k := (m : Int) - 1) (by omega) (by omega)
  rw [Int.mul_comm] at hmu
  have hna : (a == 0) = false := by simp; omega
  clear h ha hb hc hac hs ho hxa hxb hxc hoq ha2 b0 b1 c0 c1
  generalize tim (m : Int) (mulF m a c) 4 = x3 at *
  generalize addF (m : Int) (mulF m a c) (mulF m a c) = x4 at *
  generalize mulF (m : Int) a c = x2 at *
  generalize mulF (m : Int) b b = x1 at *
  generalize chi (m : Int) a = u at *
  have hdb : (x1 == x3) = true := by simpa using hd
  have hwm : IntKind.i64.wrap ((m : Int) - 1) = (m : Int) - 1 := IntWalk.i64_in _ (by omega)
  have hwn : IntKind.i64.wrap (-u) = -u := IntWalk.i64_in _ (by omega)
  obtain ⟨p, hp⟩ : ∃ p, u * ((m : Int) - 1) = p := ⟨_, rfl⟩
  rw [hp] at hmu ⊢
  have hwp : IntKind.i64.wrap (u * ((m : Int) - 1)) = p := by rw [hp]; exact IntWalk.i64_in _ (by omega)
  clear hp hd
  go_enter Try.func7, Try.ntmps7
  go_wp2_with fail
  refine (HO.out _).mono ?_
  rintro e w1 ⟨rfl, hb1⟩
  have hz1 := hb1.size
  go_wp2_with fail
  refine (HA.out _).mono ?_
  rintro e w2 ⟨rfl, hb2⟩
  have hz2 := hb2.size
  go_wp2_with fail
  refine (HB.out _).mono ?_
  rintro e w3 ⟨rfl, hb3⟩
  have hz3 := hb3.size
  go_wp2_with fail
  refine (HC.out _).mono ?_
  rintro e w4 ⟨rfl, hb4⟩
  have hz4 := hb4.size
  go_wp2_with fail
  refine (HT1.out _).mono ?_
  rintro e w5 ⟨rfl, hb5⟩
  have hz5 := hb5.size
  go_wp2_with fail
  refine (HP1.out _).mono ?_
  rintro e w6 ⟨rfl, hb6⟩
  have hz6 := hb6.size
  go_wp2_with fail
  refine (HT2.out _).mono ?_
  rintro e w7 ⟨rfl, hb7⟩
  have hz7 := hb7.size
  go_wp2_with fail
  refine (HP2.out _).mono ?_
  rintro e w8 ⟨rfl, hb8⟩
  have hz8 := hb8.size
  go_wp2_with fail
  refine (HF.out _).mono ?_
  rintro e w9 ⟨rfl, hb9⟩
  have hz9 := hb9.size
  have HB9 : Hid (Below w.heap.size w w9) := Lib.hid (by (repeat' (first | (with_reducible assumption) | (with_reducible exact Below.refl _ _) | (with_reducible refine below_drewN ?_ _) | (with_reducible refine Below.drew ?_) | (with_reducible refine Below.alloc ?_ ?_ _) | (with_reducible refine Below.setCell ?_ ?_ _) | (with_reducible refine Below.trans ?_ (Below.mono (by assumption) ?_)) | (with_reducible exact Nat.le_refl _) | (with_reducible assumption) | omega | (simp; omega) | (simp; done))))
  clear hb1 hb2 hb3 hb4 hb5 hb6 hb7 hb8 hb9
  go_wp2
  go_ret2
  exact ⟨rfl, HB9.out⟩
set_option maxRecDepth 100000 in
set_option maxHeartbeats 4000000 in
theorem spec_QuadraticSum_other (m : Nat) (a b c : Int) (w : World) (h : isSz (m : Int) = true) (ho : (m : Int) % 2 = 1) (ha : inN (m : Int) a = true) (hb : inE (m : Int) b = true) (hc : inE (m : Int) c = true) (hd : ¬ mulF m b b = tim m (mulF m a c) 4) :
    Calls Try.prog 7 #[.int .i64 m, .int .i64 a, .int .i64 b, .int .i64 c] w fun e w' => e = .returned (.tuple #[.int .i64 (-chi m a), .bool true]) ∧ Below w.heap.size w w' := by
  have hq := isSz_le (m : Int) h
  obtain ⟨ha2, _, a0, a1⟩ := inN_yes ha
  obtain ⟨_, b0, b1⟩ := inE_yes hb
  obtain ⟨_, c0, c1⟩ := inE_yes hc
  have HO := Lib.hid (fun w => ctOdd_any (m : Int) w)
  have hoq : odq (m : Int) = true := by unfold odq; rw [h, ho]; rfl
  rw [hoq] at HO
  have HA := Lib.hid (fun w => fdIn_any (m : Int) a w)
  have HB := Lib.hid (fun w => fdIn_any (m : Int) b w)
  have HC := Lib.hid (fun w => fdIn_any (m : Int) c w)
  rw [ha2] at HA
  rw [hb] at HB
  rw [hc] at HC
  have hxa : El (m : Int) a := ⟨by omega, a1⟩
  have hxb : El (m : Int) b := ⟨b0, b1⟩
  have hxc : El (m : Int) c := ⟨c0, c1⟩
  have hac := hxa.mul h hxc
  have hs := hac.add h hac
  have HT1 := Lib.hid (fun w => fdTimes_any (m : Int) a c w h hxa.1 hxa.2 c0 c1)
  have HP1 := Lib.hid (fun w => fdPlus_any (m : Int) (mulF m a c) (mulF m a c) w h hac.1 hac.2 hac.1 hac.2)
  have HT2 := Lib.hid (fun w => fdTimes_any (m : Int) b b w h b0 b1 b0 b1)
  have HP2 := Lib.hid (fun w => fdPlus_any (m : Int) (addF m (mulF m a c) (mulF m a c)) (addF m (mulF m a c) (mulF m a c)) w h hs.1 hs.2 hs.1 hs.2)
  rw [tim_four h hac] at HP2
  have HF := Lib.hid (fun w => ctOf_any m a w h ho hxa.1 hxa.2)
  have hu := chi_bd m a
  have hmu := mul_sign hu (k := (m : Int) - 1) (by omega) (by omega)
  rw [Int.mul_comm] at hmu
  have hna : (a == 0) = false := by simp; omega
  clear h ha hb hc hac hs ho hxa hxb hxc hoq ha2 b0 b1 c0 c1
  generalize tim (m : Int) (mulF m a c) 4 = x3 at *
  generalize addF (m : Int) (mulF m a c) (mulF m a c) = x4 at *
  generalize mulF (m : Int) a c = x2 at *
  generalize mulF (m : Int) b b = x1 at *
  generalize chi (m : Int) a = u at *
  have hdb : (x1 == x3) = false := by simpa using hd
  have hwm : IntKind.i64.wrap ((m : Int) - 1) = (m : Int) - 1 := IntWalk.i64_in _ (by omega)
  have hwn : IntKind.i64.wrap (-u) = -u := IntWalk.i64_in _ (by omega)
  obtain ⟨p, hp⟩ : ∃ p, u * ((m : Int) - 1) = p := ⟨_, rfl⟩
  rw [hp] at hmu
  have hwp : IntKind.i64.wrap (u * ((m : Int) - 1)) = p := by rw [hp]; exact IntWalk.i64_in _ (by omega)
  clear hp hd
  go_enter Try.func7, Try.ntmps7
  go_wp2_with fail
  refine (HO.out _).mono ?_
  rintro e w1 ⟨rfl, hb1⟩
  have hz1 := hb1.size
  go_wp2_with fail
  refine (HA.out _).mono ?_
  rintro e w2 ⟨rfl, hb2⟩
  have hz2 := hb2.size
  go_wp2_with fail
  refine (HB.out _).mono ?_
  rintro e w3 ⟨rfl, hb3⟩
  have hz3 := hb3.size
  go_wp2_with fail
  refine (HC.out _).mono ?_
  rintro e w4 ⟨rfl, hb4⟩
  have hz4 := hb4.size
  go_wp2_with fail
  refine (HT1.out _).mono ?_
  rintro e w5 ⟨rfl, hb5⟩
  have hz5 := hb5.size
  go_wp2_with fail
  refine (HP1.out _).mono ?_
  rintro e w6 ⟨rfl, hb6⟩
  have hz6 := hb6.size
  go_wp2_with fail
  refine (HT2.out _).mono ?_
  rintro e w7 ⟨rfl, hb7⟩
  have hz7 := hb7.size
  go_wp2_with fail
  refine (HP2.out _).mono ?_
  rintro e w8 ⟨rfl, hb8⟩
  have hz8 := hb8.size
  go_wp2_with fail
  refine (HF.out _).mono ?_
  rintro e w9 ⟨rfl, hb9⟩
  have hz9 := hb9.size
  have HB9 : Hid (Below w.heap.size w w9) := Lib.hid (by (repeat' (first | (with_reducible assumption) | (with_reducible exact Below.refl _ _) | (with_reducible refine below_drewN ?_ _) | (with_reducible refine Below.drew ?_) | (with_reducible refine Below.alloc ?_ ?_ _) | (with_reducible refine Below.setCell ?_ ?_ _) | (with_reducible refine Below.trans ?_ (Below.mono (by assumption) ?_)) | (with_reducible exact Nat.le_refl _) | (with_reducible assumption) | omega | (simp; omega) | (simp; done))))
  clear hb1 hb2 hb3 hb4 hb5 hb6 hb7 hb8 hb9
  go_wp2
  go_ret2
  exact ⟨rfl, HB9.out⟩
set_option maxRecDepth 100000 in
set_option maxHeartbeats 4000000 in
theorem impl_QuadraticSum_yes (m : Nat) (a b c : Int) (w : World) (h : isSz (m : Int) = true) (ho : (m : Int) % 2 = 1) (ha : inN (m : Int) a = true) (hb : inE (m : Int) b = true) (hc : inE (m : Int) c = true) :
    Calls Try.prog 6 #[.int .i64 m, .int .i64 a, .int .i64 b, .int .i64 c] w fun e w' => e = .returned (.tuple #[.int .i64 (qds m a b c), .bool true]) ∧ Below w.heap.size w w' := by
  obtain ⟨ha2, _, a0, a1⟩ := inN_yes ha
  obtain ⟨_, b0, b1⟩ := inE_yes hb
  obtain ⟨_, c0, c1⟩ := inE_yes hc
  have H1 := Lib.hid (fun w => nonzeroOf_yes (m : Int) a w ha)
  have H2 := Lib.hid (fun w => oddPairOf_yes m b c w hb hc ho)
  have HQ : Hid (∀ w, Calls Try.prog 32 #[fdE (m : Int), elE (m : Int) a, elE (m : Int) b, elE (m : Int) c] w fun e w' => e = .returned (.int .i64 (qds m a b c)) ∧ Below w.heap.size w w') := Lib.hid fun w => by
    unfold qds
    by_cases hd : mulF m b b = tim m (mulF m a c) 4
    · rw [if_pos hd]
      exact quadraticSum_told m a b c w h ⟨by omega, a1⟩ ⟨b0, b1⟩ ⟨c0, c1⟩ hd
    · rw [if_neg hd]
      exact quadraticSum_other m a b c w h ⟨by omega, a1⟩ ⟨b0, b1⟩ ⟨c0, c1⟩ hd
  clear h ha hb hc ho ha2 a0 a1 b0 b1 c0 c1
  generalize qds m a b c = r at *
  go_enter Try.func6, Try.ntmps6
  go_wp2_with fail
  refine (H1.out _).mono ?_
  rintro e w1 ⟨rfl, hb1⟩
  have HB1 := Lib.hid hb1; clear hb1
  go_wp2_with fail
  refine (H2.out _).mono ?_
  rintro e w2 ⟨rfl, hb2⟩
  have hz2 := hb2.size
  simp at hz2
  obtain ⟨y0, y1, y2, y3, y4, y5, y6, _⟩ := seven ((hb2.block w1.heap.size (by first | omega | (simp; done) | (simp; omega))).trans (heap_alloc_new w1 (eblk (m : Int) a)))
  have l2 : w1.heap.size < w2.heap.size := by omega
  have HB2 : Hid (Below w1.heap.size w1 w2) := Lib.hid (by (repeat' (first | (with_reducible assumption) | (with_reducible exact Below.refl _ _) | (with_reducible refine below_drewN ?_ _) | (with_reducible refine Below.drew ?_) | (with_reducible refine Below.alloc ?_ ?_ _) | (with_reducible refine Below.setCell ?_ ?_ _) | (with_reducible refine Below.trans ?_ (Below.mono (by assumption) ?_)) | (with_reducible exact Nat.le_refl _) | (with_reducible assumption) | omega | (simp; omega) | (simp; done)))); clear hb2
  go_wp2_with fail
  refine (HQ.out _).mono ?_
  rintro e w3 ⟨rfl, hb3⟩
  have HB3 : Hid (Below w1.heap.size w1 w3) := Lib.hid (by have hb2 := HB2.out; (repeat' (first | (with_reducible assumption) | (with_reducible exact Below.refl _ _) | (with_reducible refine below_drewN ?_ _) | (with_reducible refine Below.drew ?_) | (with_reducible refine Below.alloc ?_ ?_ _) | (with_reducible refine Below.setCell ?_ ?_ _) | (with_reducible refine Below.trans ?_ (Below.mono (by assumption) ?_)) | (with_reducible exact Nat.le_refl _) | (with_reducible assumption) | omega | (simp; omega) | (simp; done)))); clear hb3
  go_wp2
  go_ret2
  have hb1 := HB1.out
  have hz1 := hb1.size
  have hb3 := HB3.out
  exact ⟨rfl, by (repeat' (first | (with_reducible assumption) | (with_reducible exact Below.refl _ _) | (with_reducible refine below_drewN ?_ _) | (with_reducible refine Below.drew ?_) | (with_reducible refine Below.alloc ?_ ?_ _) | (with_reducible refine Below.setCell ?_ ?_ _) | (with_reducible refine Below.trans ?_ (Below.mono (by assumption) ?_)) | (with_reducible exact Nat.le_refl _) | (with_reducible assumption) | omega | (simp; omega) | (simp; done)))⟩
theorem key_QuadraticSum (q : Int) (a : Int) (b : Int) (c : Int) : ∃ (r : Int) (o : Bool), (∀ (w : World), Calls Try.prog 7 #[.int .i64 q, .int .i64 a, .int .i64 b, .int .i64 c] w fun e w' => e = .returned (.tuple #[.int .i64 r, .bool o]) ∧ Below w.heap.size w w') ∧
      (∀ (w : World), Calls Try.prog 6 #[.int .i64 q, .int .i64 a, .int .i64 b, .int .i64 c] w fun e w' => e = .returned (.tuple #[.int .i64 r, .bool o]) ∧ Below w.heap.size w w') := by
  cases h : qok q a b c with
  | false => exact ⟨0, false, fun w => spec_QuadraticSum_no q a b c w h, fun w => impl_QuadraticSum_no q a b c w h⟩
  | true =>
    obtain ⟨m, rfl, hs, ho, ha, hb, hc⟩ := qok_nat h
    refine ⟨qds m a b c, true, fun w => ?_, fun w => impl_QuadraticSum_yes m a b c w hs ho ha hb hc⟩
    unfold qds
    by_cases hd : mulF m b b = tim m (mulF m a c) 4
    · rw [if_pos hd]
      exact spec_QuadraticSum_told m a b c w hs ho ha hb hc hd
    · rw [if_neg hd]
      exact spec_QuadraticSum_other m a b c w hs ho ha hb hc hd
end Go.Proofs.Ytpjlolnnbbgikaa
