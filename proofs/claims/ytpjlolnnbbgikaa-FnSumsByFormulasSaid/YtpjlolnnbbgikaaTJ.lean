/- ShiftedSum, of both, by contracts; the walk of its law. -/
import Derived.Test.YtpjlolnnbbgikaaTB
import Derived.Test.YtpjlolnnbbgikaaTE
import Derived.Deep.RegionHeld3
namespace Go.Proofs.Ytpjlolnnbbgikaa
open Go.RowKit
theorem cellsN {w : World} {b : Nat} {cs : Array Value} {T : TypeId} (h : w.heap[b]? = some (.cells cs T (0, 0))) (k : Nat) : w.cell? ⟨b, k, none⟩ = cs[k]? := cell_of_row w b k _ _ _ h
set_option maxRecDepth 100000 in
set_option maxHeartbeats 4000000 in
/-- impl.shiftedCharacters.amountAt. -/
theorem amountS (m : Nat) (a b s x y : Int) (A : Array Value) (w : World) (hx : -1 ≤ x ∧ x ≤ 1) (hy : -1 ≤ y ∧ y ≤ 1)
    (HP : ∀ w', Calls Try.prog 52 #[elE (m : Int) a, elE (m : Int) b] w' fun e w'' => e = .returned (elE (m : Int) s) ∧ Below w'.heap.size w' w'')
    (H1 : ∀ w', Calls Try.prog 48 #[.agg A, elE (m : Int) a] w' fun e w'' => e = .returned (.int .i64 x) ∧ Below w'.heap.size w' w'')
    (H2 : ∀ w', Calls Try.prog 48 #[.agg A, elE (m : Int) s] w' fun e w'' => e = .returned (.int .i64 y) ∧ Below w'.heap.size w' w'') :
    Calls Try.prog 109 #[.agg #[.int .i64 m, .int .i64 (pr m), .int .i64 (pl m), .int .i64 (dg m b 0), .int .i64 (dg m b 1), .int .i64 (dg m b 2), .int .i64 (dg m b 3), .func (.func 48) #[.agg A] #[]], elE (m : Int) a] w fun e w' => e = .returned (.int .i64 (x * y)) ∧ Below w.heap.size w w' := by
  have HPP := Lib.hid HP
  have HO1 := Lib.hid H1
  have HO2 := Lib.hid H2
  have hxy : -1 ≤ x * y ∧ x * y ≤ 1 := by
    have hc : x = -1 ∨ x = 0 ∨ x = 1 := by omega
    rcases hc with rfl | rfl | rfl <;> omega
  obtain ⟨p, hp⟩ : ∃ p, x * y = p := ⟨_, rfl⟩
  rw [hp] at hxy ⊢
  have hwr : IntKind.i64.wrap (x * y) = p := by rw [hp]; exact IntWalk.i64_in _ (by omega)
  clear HP H1 H2 hp
  go_enter Try.func109, Try.ntmps109
  go_wp2_with fail
  have HTW := Lib.hid (two w (.cells #[.int .i64 m, .int .i64 (pr m), .int .i64 (pl m), .int .i64 (dg m b 0), .int .i64 (dg m b 1), .int .i64 (dg m b 2), .int .i64 (dg m b 3), .func (.func 48) #[.agg A] #[]] 77) (eblk (m : Int) a))
  have HKEEP : Hid (∀ w', Below (w.heap.size + 2) ((w.alloc (.cells #[.int .i64 m, .int .i64 (pr m), .int .i64 (pl m), .int .i64 (dg m b 0), .int .i64 (dg m b 1), .int .i64 (dg m b 2), .int .i64 (dg m b 3), .func (.func 48) #[.agg A] #[]] 77)).alloc (eblk (m : Int) a)) w' → w'.cell? ⟨w.heap.size, 0, none⟩ = some (.int .i64 m) ∧ w'.cell? ⟨w.heap.size, 1, none⟩ = some (.int .i64 (pr m)) ∧ w'.cell? ⟨w.heap.size, 2, none⟩ = some (.int .i64 (pl m)) ∧ w'.cell? ⟨w.heap.size, 3, none⟩ = some (.int .i64 (dg m b 0)) ∧ w'.cell? ⟨w.heap.size, 4, none⟩ = some (.int .i64 (dg m b 1)) ∧ w'.cell? ⟨w.heap.size, 5, none⟩ = some (.int .i64 (dg m b 2)) ∧ w'.cell? ⟨w.heap.size, 6, none⟩ = some (.int .i64 (dg m b 3)) ∧ w'.cell? ⟨w.heap.size, 7, none⟩ = some (.func (.func 48) #[.agg A] #[]) ∧ w'.cell? ⟨w.heap.size + 1, 0, none⟩ = some (.int .i64 m) ∧ w'.cell? ⟨w.heap.size + 1, 1, none⟩ = some (.int .i64 (pr m)) ∧ w'.cell? ⟨w.heap.size + 1, 2, none⟩ = some (.int .i64 (pl m)) ∧ w'.cell? ⟨w.heap.size + 1, 3, none⟩ = some (.int .i64 (dg m a 0)) ∧ w'.cell? ⟨w.heap.size + 1, 4, none⟩ = some (.int .i64 (dg m a 1)) ∧ w'.cell? ⟨w.heap.size + 1, 5, none⟩ = some (.int .i64 (dg m a 2)) ∧ w'.cell? ⟨w.heap.size + 1, 6, none⟩ = some (.int .i64 (dg m a 3))) := Lib.hid fun w' hb => by
    have h1 := cellsN ((hb.block w.heap.size (by omega)).trans HTW.out.1)
    obtain ⟨y0, y1, y2, y3, y4, y5, y6, _⟩ := seven ((hb.block (w.heap.size + 1) (by omega)).trans HTW.out.2)
    exact ⟨h1 0, h1 1, h1 2, h1 3, h1 4, h1 5, h1 6, h1 7, y0, y1, y2, y3, y4, y5, y6⟩
  go_region_held3 (fun w' => w'.cell? ⟨w.heap.size, 0, none⟩ = some (.int .i64 m) ∧ w'.cell? ⟨w.heap.size, 1, none⟩ = some (.int .i64 (pr m)) ∧ w'.cell? ⟨w.heap.size, 2, none⟩ = some (.int .i64 (pl m)) ∧ w'.cell? ⟨w.heap.size, 3, none⟩ = some (.int .i64 (dg m b 0)) ∧ w'.cell? ⟨w.heap.size, 4, none⟩ = some (.int .i64 (dg m b 1)) ∧ w'.cell? ⟨w.heap.size, 5, none⟩ = some (.int .i64 (dg m b 2)) ∧ w'.cell? ⟨w.heap.size, 6, none⟩ = some (.int .i64 (dg m b 3)) ∧ w'.cell? ⟨w.heap.size, 7, none⟩ = some (.func (.func 48) #[.agg A] #[]) ∧ w'.cell? ⟨w.heap.size + 1, 0, none⟩ = some (.int .i64 m) ∧ w'.cell? ⟨w.heap.size + 1, 1, none⟩ = some (.int .i64 (pr m)) ∧ w'.cell? ⟨w.heap.size + 1, 2, none⟩ = some (.int .i64 (pl m)) ∧ w'.cell? ⟨w.heap.size + 1, 3, none⟩ = some (.int .i64 (dg m a 0)) ∧ w'.cell? ⟨w.heap.size + 1, 4, none⟩ = some (.int .i64 (dg m a 1)) ∧ w'.cell? ⟨w.heap.size + 1, 5, none⟩ = some (.int .i64 (dg m a 2)) ∧ w'.cell? ⟨w.heap.size + 1, 6, none⟩ = some (.int .i64 (dg m a 3)))
    (exact HKEEP.out _ (by (try have hb3 := HB3.out); (try have hb4 := HB4.out); (try have hb5 := HB5.out); (repeat' (first | (with_reducible assumption) | (with_reducible exact Below.refl _ _) | (with_reducible refine below_drewN ?_ _) | (with_reducible refine Below.drew ?_) | (with_reducible refine Below.alloc ?_ ?_ _) | (with_reducible refine Below.setCell ?_ ?_ _) | (with_reducible refine Below.trans ?_ (Below.mono (by assumption) ?_)) | (with_reducible exact Nat.le_refl _) | (with_reducible assumption) | omega | (simp; omega) | (simp; done)))))
    (first
    | (go_at_call_of 48 (dg (m : Int) a 0); refine (HO1.out _).mono ?_; rintro e w3 ⟨rfl, hb3⟩; obtain ⟨hc3, hf3⟩ := bcell hb3; (try simp only [World.size_drew] at hc3 hf3); have hz3 := hb3.size; (try simp at hz3); have HB3 := Lib.hid hb3; clear hb3)
    | (go_at_call 52; refine (HPP.out _).mono ?_; rintro e w4 ⟨rfl, hb4⟩; obtain ⟨hc4, hf4⟩ := bcell hb4; (try simp only [World.size_drew] at hc4 hf4); have hz4 := hb4.size; (try simp at hz4); have HB4 := Lib.hid hb4; clear hb4)
    | (go_at_call_of 48 (elE (m : Int) s); refine (HO2.out _).mono ?_; rintro e w5 ⟨rfl, hb5⟩; obtain ⟨hc5, hf5⟩ := bcell hb5; (try simp only [World.size_drew] at hc5 hf5); have hz5 := hb5.size; (try simp at hz5); have HB5 := Lib.hid hb5; clear hb5))
  all_goals
    go_wp2
    go_ret
    have hb3 := HB3.out
    have hb4 := HB4.out
    have hb5 := HB5.out
    exact ⟨rfl, by (repeat' (first | (with_reducible assumption) | (with_reducible exact Below.refl _ _) | (with_reducible refine below_drewN ?_ _) | (with_reducible refine Below.drew ?_) | (with_reducible refine Below.alloc ?_ ?_ _) | (with_reducible refine Below.setCell ?_ ?_ _) | (with_reducible refine Below.trans ?_ (Below.mono (by assumption) ?_)) | (with_reducible exact Nat.le_refl _) | (with_reducible assumption) | omega | (simp; omega) | (simp; done)))⟩
/-- The sum of products of shifted characters. -/
def shs (m : Nat) (a : Int) : Int := csm (fun x => chi m (x : Int) * chi m (addF m (x : Int) a)) m
theorem chi_mul (m : Nat) (a b : Int) : -1 ≤ chi m a * chi m b ∧ chi m a * chi m b ≤ 1 := by
  have h1 := chi_bd m a
  have h2 := chi_bd m b
  have hc : chi m a = -1 ∨ chi m a = 0 ∨ chi m a = 1 := by omega
  rcases hc with h | h | h <;> rw [h] <;> omega
theorem spec_ShiftedSum_no (q a : Int) (w : World) (h : ode q a = false) :
    Calls Try.prog 14 #[.int .i64 q, .int .i64 a] w fun e w' => e = .returned (.tuple #[.int .i64 0, .bool false]) ∧ Below w.heap.size w w' := by
  have HO := Lib.hid (fun w => ctOdd_any q w)
  have HI := Lib.hid (fun w => fdIn_any q a w)
  cases ho : odq q with
  | false =>
    rw [ho] at HO
    clear h ho
    go_enter Try.func14, Try.ntmps14
    go_wp2_with fail
    refine (HO.out _).mono ?_
    rintro e w1 ⟨rfl, hb1⟩
    go_wp2
    go_ret2
    exact ⟨rfl, hb1⟩
  | true =>
    rw [ho] at HO
    rw [← ode_in ho, h] at HI
    clear h ho
    go_enter Try.func14, Try.ntmps14
    go_wp2_with fail
    refine (HO.out _).mono ?_
    rintro e w1 ⟨rfl, hb1⟩
    have hz_hb1 := hb1.size; (try simp at hz_hb1)
    go_wp2_with fail
    refine (HI.out _).mono ?_
    rintro e w2 ⟨rfl, hb2⟩
    go_wp2
    go_ret2
    exact ⟨rfl, by (repeat' (first | (with_reducible assumption) | (with_reducible exact Below.refl _ _) | (with_reducible refine below_drewN ?_ _) | (with_reducible refine Below.drew ?_) | (with_reducible refine Below.alloc ?_ ?_ _) | (with_reducible refine Below.setCell ?_ ?_ _) | (with_reducible refine Below.trans ?_ (Below.mono (by assumption) ?_)) | (with_reducible exact Nat.le_refl _) | (with_reducible assumption) | omega | (simp; omega) | (simp; done)))⟩
theorem impl_ShiftedSum_no (q a : Int) (w : World) (h : ode q a = false) :
    Calls Try.prog 13 #[.int .i64 q, .int .i64 a] w fun e w' => e = .returned (.tuple #[.int .i64 0, .bool false]) ∧ Below w.heap.size w w' := by
  have HO := Lib.hid (fun w => oddElementOf_no q a w h)
  clear h
  go_enter Try.func13, Try.ntmps13
  go_wp2_with fail
  refine (HO.out _).mono ?_
  rintro e w1 ⟨rfl, hb1⟩
  have hz_hb1 := hb1.size; (try simp at hz_hb1)
  go_wp2
  go_ret2
  exact ⟨rfl, by (repeat' (first | (with_reducible assumption) | (with_reducible exact Below.refl _ _) | (with_reducible refine below_drewN ?_ _) | (with_reducible refine Below.drew ?_) | (with_reducible refine Below.alloc ?_ ?_ _) | (with_reducible refine Below.setCell ?_ ?_ _) | (with_reducible refine Below.trans ?_ (Below.mono (by assumption) ?_)) | (with_reducible exact Nat.le_refl _) | (with_reducible assumption) | omega | (simp; omega) | (simp; done)))⟩
set_option maxRecDepth 100000 in
set_option maxHeartbeats 4000000 in
theorem spec_ShiftedSum_yes (m : Nat) (a : Int) (w : World) (h : isSz (m : Int) = true) (ho : (m : Int) % 2 = 1) (ha : inE (m : Int) a = true) :
    Calls Try.prog 14 #[.int .i64 m, .int .i64 a] w fun e w' => e = .returned (.tuple #[.int .i64 (shs m a), .bool true]) ∧ Below w.heap.size w w' := by
  have hq := isSz_le (m : Int) h
  have HO := Lib.hid (fun w => ctOdd_any (m : Int) w)
  have hoq : odq (m : Int) = true := by unfold odq; rw [h, ho]; rfl
  rw [hoq] at HO
  have HI := Lib.hid (fun w => fdIn_any (m : Int) a w)
  rw [ha] at HI
  obtain ⟨_, a0, a1⟩ := inE_yes ha
  have HC1 := Lib.hid (fun (x : Nat) w (hx : x < m) => ctOf_any m (x : Int) w h ho (by omega) (by omega))
  have HPL := Lib.hid (fun (x : Nat) w (hx : x < m) => fdPlus_any (m : Int) (x : Int) a w h (by omega) (by omega) a0 a1)
  have HC2 := Lib.hid (fun (x : Nat) w (hx : x < m) => ctOf_any m (addF m (x : Int) a) w h ho (addF_bd (m : Int) (x : Int) a h (by omega) (by omega) a0 a1).1 (addF_bd (m : Int) (x : Int) a h (by omega) (by omega) a0 a1).2)
  have HB := Lib.hid (csm_bd (c := fun x => chi m (x : Int) * chi m (addF m (x : Int) a)) (fun i => chi_mul m _ _))
  have HBX := Lib.hid (fun x : Nat => chi_bd m (x : Int))
  have HBY := Lib.hid (fun x : Nat => chi_mul m (x : Int) (addF m (x : Int) a))
  have HS : Hid (∀ k, csm (fun x => chi m (x : Int) * chi m (addF m (x : Int) a)) (k + 1) = csm (fun x => chi m (x : Int) * chi m (addF m (x : Int) a)) k + chi m (k : Int) * chi m (addF m (k : Int) a)) := Lib.hid fun _ => rfl
  have HS0 : Hid (csm (fun x => chi m (x : Int) * chi m (addF m (x : Int) a)) 0 = 0) := Lib.hid rfl
  unfold shs
  clear h ho ha hoq
  generalize csm (fun x => chi m (x : Int) * chi m (addF m (x : Int) a)) = S at *
  go_enter Try.func14, Try.ntmps14
  go_wp2_with fail
  refine (HO.out _).mono ?_
  rintro e w1 ⟨rfl, hb1⟩
  have hz_hb1 := hb1.size; (try simp at hz_hb1)
  go_wp2_with fail
  refine (HI.out _).mono ?_
  rintro e w2 ⟨rfl, hb2⟩
  have HB2 : Hid (Below w.heap.size w w2) := Lib.hid (by (repeat' (first | (with_reducible assumption) | (with_reducible exact Below.refl _ _) | (with_reducible refine below_drewN ?_ _) | (with_reducible refine Below.drew ?_) | (with_reducible refine Below.alloc ?_ ?_ _) | (with_reducible refine Below.setCell ?_ ?_ _) | (with_reducible refine Below.trans ?_ (Below.mono (by assumption) ?_)) | (with_reducible exact Nat.le_refl _) | (with_reducible assumption) | omega | (simp; omega) | (simp; done))))
  clear hb1 hb2 hz_hb1
  go_wp2_with fail
  go_loopw [6, 7] (fun vs vx wr => ∃ x : Nat, x ≤ m ∧ vx = .int .i64 x ∧ vs = .int .i64 (S x) ∧ Below w.heap.size w wr) (fun _ vx _ => m - (intOf vx).toNat)
  case atStart => exact ⟨0, Nat.zero_le _, rfl, by rw [HS0.out], HB2.out⟩
  case round =>
    obtain ⟨x, hxm, rfl, rfl, hb⟩ := hrel
    have hzb := hb.size
    have HBB := Lib.hid hb; clear hb
    by_cases hlt : x < m
    · have X1 := Lib.hid (fun w => HC1.out x w hlt)
      have X2 := Lib.hid (fun w => HPL.out x w hlt)
      have X3 := Lib.hid (fun w => HC2.out x w hlt)
      have b1 := HB.out x
      have b2 := HBY.out x
      have HSX := Lib.hid (HS.out x)
      generalize addF (m : Int) (x : Int) a = y at *
      generalize chi (m : Int) (x : Int) = c1 at *
      generalize chi (m : Int) y = c2 at *
      generalize S x = s at *
      obtain ⟨p, hp⟩ : ∃ p, c1 * c2 = p := ⟨_, rfl⟩
      rw [hp] at b2 HSX
      have hw1 : IntKind.i64.wrap (c1 * c2) = p := by rw [hp]; exact IntWalk.i64_in _ (by omega)
      have hw2 : IntKind.i64.wrap (s + p) = s + p := IntWalk.i64_in _ (by omega)
      clear hp
      go_wp2_with fail
      refine (X1.out _).mono ?_
      rintro e w3 ⟨rfl, hb3⟩
      have hz3 := hb3.size
      go_wp2_with fail
      refine (X2.out _).mono ?_
      rintro e w4 ⟨rfl, hb4⟩
      have hz4 := hb4.size
      go_wp2_with fail
      refine (X3.out _).mono ?_
      rintro e w5 ⟨rfl, hb5⟩
      have HB5 : Hid (Below w.heap.size w w5) := Lib.hid (HBB.out.trans ((hb3.trans ((hb4.trans (hb5.mono hz4)).mono hz3)).mono hzb))
      clear hb3 hb4 hb5
      go_wp2
      go_roundw
      case rel => exact ⟨x + 1, by omega, by go_num, by rw [HSX.out], HB5.out⟩
      case measure => simp [intOf]; omega
    · obtain rfl : m = x := by omega
      go_wp2
      go_ret2
      exact ⟨rfl, HBB.out⟩
set_option maxRecDepth 100000 in
set_option maxHeartbeats 4000000 in
theorem impl_ShiftedSum_yes (m : Nat) (a : Int) (w : World) (h : isSz (m : Int) = true) (ho : (m : Int) % 2 = 1) (ha : inE (m : Int) a = true) :
    Calls Try.prog 13 #[.int .i64 m, .int .i64 a] w fun e w' => e = .returned (.tuple #[.int .i64 (shs m a), .bool true]) ∧ Below w.heap.size w w' := by
  have hq := isSz_le (m : Int) h
  obtain ⟨_, a0, a1⟩ := inE_yes ha
  have HO := Lib.hid (fun w => oddElementOf_yes m a w ha ho)
  have HC := Lib.hid (fun w => charactersE m w h)
  have HS : Hid (∀ w', Calls Try.prog 46 #[fdE (m : Int), .iface 77 (.agg #[.int .i64 m, .int .i64 (pr m), .int .i64 (pl m), .int .i64 (dg m a 0), .int .i64 (dg m a 1), .int .i64 (dg m a 2), .int .i64 (dg m a 3), .func (.func 48) #[.agg (CH (chN m m))] #[]])] w' fun e w'' => e = .returned (.int .i64 (shs m a)) ∧ Below w'.heap.size w' w'') := Lib.hid fun w' =>
    sumOver_S m _ (fun x => chi m (x : Int) * chi m (addF m (x : Int) a)) w' h (fun _ => chi_mul m _ _) fun i hi w2 hb2 => amountS m (i : Int) a (addF m (i : Int) a) _ _ _ w2 (chi_bd _ _) (chi_bd _ _)
      (fun w3 => plusE (m : Int) (i : Int) a w3 h (by omega) (by omega) a0 a1)
      (fun w3 => ofE m (i : Int) w3 h ⟨by omega, by omega⟩)
      (fun w3 => ofE m (addF m (i : Int) a) w3 h (addF_bd (m : Int) (i : Int) a h (by omega) (by omega) a0 a1))
  clear h ha ho
  generalize shs m a = r at *
  generalize CH (chN m m) = A at *
  go_enter Try.func13, Try.ntmps13
  go_wp2_with fail
  refine (HO.out _).mono ?_
  rintro e w1 ⟨rfl, hb1⟩
  have HB1 := Lib.hid hb1; clear hb1
  go_wp2_with fail
  have HKEEP : Hid (∀ w', Below (w1.heap.size + 1) (w1.alloc (eblk (m : Int) a)) w' → w'.cell? ⟨w1.heap.size, 0, none⟩ = some (.int .i64 m) ∧ w'.cell? ⟨w1.heap.size, 1, none⟩ = some (.int .i64 (pr m)) ∧ w'.cell? ⟨w1.heap.size, 2, none⟩ = some (.int .i64 (pl m)) ∧ w'.cell? ⟨w1.heap.size, 3, none⟩ = some (.int .i64 (dg m a 0)) ∧ w'.cell? ⟨w1.heap.size, 4, none⟩ = some (.int .i64 (dg m a 1)) ∧ w'.cell? ⟨w1.heap.size, 5, none⟩ = some (.int .i64 (dg m a 2)) ∧ w'.cell? ⟨w1.heap.size, 6, none⟩ = some (.int .i64 (dg m a 3))) := Lib.hid fun w' hb => by
    obtain ⟨y0, y1, y2, y3, y4, y5, y6, _⟩ := seven ((hb.block w1.heap.size (by omega)).trans (heap_alloc_new w1 _))
    exact ⟨y0, y1, y2, y3, y4, y5, y6⟩
  go_region_held3 (fun w' => w'.cell? ⟨w1.heap.size, 0, none⟩ = some (.int .i64 m) ∧ w'.cell? ⟨w1.heap.size, 1, none⟩ = some (.int .i64 (pr m)) ∧ w'.cell? ⟨w1.heap.size, 2, none⟩ = some (.int .i64 (pl m)) ∧ w'.cell? ⟨w1.heap.size, 3, none⟩ = some (.int .i64 (dg m a 0)) ∧ w'.cell? ⟨w1.heap.size, 4, none⟩ = some (.int .i64 (dg m a 1)) ∧ w'.cell? ⟨w1.heap.size, 5, none⟩ = some (.int .i64 (dg m a 2)) ∧ w'.cell? ⟨w1.heap.size, 6, none⟩ = some (.int .i64 (dg m a 3)))
    (exact HKEEP.out _ (by (try have hb3 := HB3.out); (try have hb4 := HB4.out); (repeat' (first | (with_reducible assumption) | (with_reducible exact Below.refl _ _) | (with_reducible refine below_drewN ?_ _) | (with_reducible refine Below.drew ?_) | (with_reducible refine Below.alloc ?_ ?_ _) | (with_reducible refine Below.setCell ?_ ?_ _) | (with_reducible refine Below.trans ?_ (Below.mono (by assumption) ?_)) | (with_reducible exact Nat.le_refl _) | (with_reducible assumption) | omega | (simp; omega) | (simp; done)))))
    (first
    | (go_at_call 47; refine (HC.out _).mono ?_; rintro e w3 ⟨rfl, hb3⟩; obtain ⟨hc3, hf3⟩ := bcell hb3; (try simp only [World.size_drew] at hc3 hf3); have hz3 := hb3.size; (try simp at hz3); have HB3 := Lib.hid hb3; clear hb3)
    | (go_at_call 46; refine (HS.out _).mono ?_; rintro e w4 ⟨rfl, hb4⟩; obtain ⟨hc4, hf4⟩ := bcell hb4; (try simp only [World.size_drew] at hc4 hf4); have hz4 := hb4.size; (try simp at hz4); have HB4 := Lib.hid hb4; clear hb4))
  all_goals
    go_wp2
    go_ret2
    have hb1 := HB1.out
    have hz1 := hb1.size
    have hb3 := HB3.out
    have hb4 := HB4.out
    exact ⟨rfl, by (repeat' (first | (with_reducible assumption) | (with_reducible exact Below.refl _ _) | (with_reducible refine below_drewN ?_ _) | (with_reducible refine Below.drew ?_) | (with_reducible refine Below.alloc ?_ ?_ _) | (with_reducible refine Below.setCell ?_ ?_ _) | (with_reducible refine Below.trans ?_ (Below.mono (by assumption) ?_)) | (with_reducible exact Nat.le_refl _) | (with_reducible assumption) | omega | (simp; omega) | (simp; done)))⟩
theorem key_ShiftedSum (q : Int) (a : Int) : ∃ (r : Int) (o : Bool), (∀ (w : World), Calls Try.prog 14 #[.int .i64 q, .int .i64 a] w fun e w' => e = .returned (.tuple #[.int .i64 r, .bool o]) ∧ Below w.heap.size w w') ∧
      (∀ (w : World), Calls Try.prog 13 #[.int .i64 q, .int .i64 a] w fun e w' => e = .returned (.tuple #[.int .i64 r, .bool o]) ∧ Below w.heap.size w w') := by
  cases h : ode q a with
  | false => exact ⟨0, false, fun w => spec_ShiftedSum_no q a w h, fun w => impl_ShiftedSum_no q a w h⟩
  | true =>
    obtain ⟨m, rfl, hs, ho, ha⟩ := ode_nat h
    exact ⟨_, true, fun w => spec_ShiftedSum_yes m a w hs ho ha, fun w => impl_ShiftedSum_yes m a w hs ho ha⟩
end Go.Proofs.Ytpjlolnnbbgikaa
