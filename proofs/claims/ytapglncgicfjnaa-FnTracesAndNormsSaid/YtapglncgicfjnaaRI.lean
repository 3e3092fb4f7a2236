/- impl.element.trace, TraceOf (anew) and TracePair, of both, by contracts; the walks of their laws. -/
import Derived.Test.YtapglncgicfjnaaFB
import Derived.Test.YtapglncgicfjnaaKN
import Derived.Test.YtapglncgicfjnaaKF
import Derived.Deep.RegionHeld3
namespace Go.Proofs.Ytapglncgicfjnaa
open Go.RowKit
theorem lsum_tra (q a : Int) : ∀ n, lsum q (fro q a) n = traTo q a n := by
  intro n
  induction n with
  | zero => rfl
  | succ n ih =>
    show addF q (lsum q (fro q a) n) (fro q a n) = addF q (traTo q a n) (fro q a n)
    rw [ih]
set_option maxRecDepth 100000 in
set_option maxHeartbeats 4000000 in
/-- impl.element.trace. -/
theorem traceE (q a : Int) (w : World) (h : isSz q = true) (a0 : 0 ≤ a) (a1 : a < q) :
    Calls Try.prog 105 #[elE q a] w fun e w' => e = .returned (elE q (traTo q a (plN q))) ∧ Below w.heap.size w w' := by
  have hkb := plN_bd q h
  have HE := Lib.hid (fun w => conjugatesE q a w h a0 a1)
  have HS := Lib.hid (fun v w (hs : Se w v q (fro q a) (plN q)) => by
    have := sumOfE q v (fro q a) (plN q) w h hs (fun i _ => fro_bd q a h a0 a1 i) (by omega)
    rw [lsum_tra] at this
    exact this)
  clear h a0 a1
  generalize traTo q a (plN q) = r at *
  generalize fro q a = F at *
  generalize plN q = k at *
  go_enter Try.func105, Try.ntmps105
  go_wp2_with fail
  have HT := Lib.hid (two w (eblk q a) zeroblk)
  have HKEEP : Hid (∀ w', Below (w.heap.size + 1) (w.alloc (eblk q a)) w' → w'.cell? ⟨w.heap.size, 0, none⟩ = some (.int .i64 q) ∧ w'.cell? ⟨w.heap.size, 1, none⟩ = some (.int .i64 (pr q)) ∧ w'.cell? ⟨w.heap.size, 2, none⟩ = some (.int .i64 (pl q)) ∧ w'.cell? ⟨w.heap.size, 3, none⟩ = some (.int .i64 (dg q a 0)) ∧ w'.cell? ⟨w.heap.size, 4, none⟩ = some (.int .i64 (dg q a 1)) ∧ w'.cell? ⟨w.heap.size, 5, none⟩ = some (.int .i64 (dg q a 2)) ∧ w'.cell? ⟨w.heap.size, 6, none⟩ = some (.int .i64 (dg q a 3))) := Lib.hid fun w' hb => by
    obtain ⟨x0, x1, x2, x3, x4, x5, x6, _⟩ := seven ((hb.block _ (by omega)).trans (heap_alloc_new w _))
    exact ⟨x0, x1, x2, x3, x4, x5, x6⟩
  go_region_held3 (fun w' => w'.cell? ⟨w.heap.size, 0, none⟩ = some (.int .i64 q) ∧ w'.cell? ⟨w.heap.size, 1, none⟩ = some (.int .i64 (pr q)) ∧ w'.cell? ⟨w.heap.size, 2, none⟩ = some (.int .i64 (pl q)) ∧ w'.cell? ⟨w.heap.size, 3, none⟩ = some (.int .i64 (dg q a 0)) ∧ w'.cell? ⟨w.heap.size, 4, none⟩ = some (.int .i64 (dg q a 1)) ∧ w'.cell? ⟨w.heap.size, 5, none⟩ = some (.int .i64 (dg q a 2)) ∧ w'.cell? ⟨w.heap.size, 6, none⟩ = some (.int .i64 (dg q a 3)))
    (exact HKEEP.out _ (by (try have hb3 := HB3.out); (try have hb4 := HB4.out); (repeat' (first | (with_reducible assumption) | (with_reducible exact Below.refl _ _) | (with_reducible refine below_drewN ?_ _) | (with_reducible refine Below.drew ?_) | (with_reducible refine Below.alloc ?_ ?_ _) | (with_reducible refine Below.setCell ?_ ?_ _) | (with_reducible refine Below.trans ?_ (Below.mono (by assumption) ?_)) | (with_reducible exact Nat.le_refl _) | (with_reducible assumption) | omega | (simp; omega) | (simp; done)))))
    (first
    | (go_at_call 107; refine (HE.out _).mono ?_; rintro e w3 ⟨g3, cp3, rfl, hg3, hk3, he3, hb3⟩; have HSE3 : Hid (Se w3 (.slice (some ⟨g3, 0, none⟩) k cp3) q F k) := Lib.hid ⟨g3, cp3, rfl, hk3.lt, he3⟩; clear hk3 he3; obtain ⟨hc3, hf3⟩ := bcell hb3; (try simp only [World.size_drew] at hc3 hf3); have hz3 := hb3.size; (try simp at hz3); have HB3 := Lib.hid hb3; clear hb3; have l3 : w.heap.size + 1 < w3.heap.size := (by omega))
    | (go_at_call 141; refine (HS.out _ _ HSE3.out).mono ?_; rintro e w4 ⟨rfl, hb4⟩; obtain ⟨hc4, hf4⟩ := bcell hb4; (try simp only [World.size_drew] at hc4 hf4); have hz4 := hb4.size; (try simp at hz4); have HB4 := Lib.hid hb4; clear hb4; have l4 : w.heap.size + 1 < w4.heap.size := (by omega); have hr4 : w4.heap[w.heap.size + 1]? = some zeroblk := (Below.block (B := w.heap.size + 2) (w := (w.alloc (eblk q a)).alloc zeroblk) (by have hb3 := HB3.out; have hb4 := HB4.out; (repeat' (first | (with_reducible assumption) | (with_reducible exact Below.refl _ _) | (with_reducible refine below_drewN ?_ _) | (with_reducible refine Below.drew ?_) | (with_reducible refine Below.alloc ?_ ?_ _) | (with_reducible refine Below.setCell ?_ ?_ _) | (with_reducible refine Below.trans ?_ (Below.mono (by assumption) ?_)) | (with_reducible exact Nat.le_refl _) | (with_reducible assumption) | omega | (simp; omega) | (simp; done)))) _ (by omega)).trans HT.out.2; obtain ⟨q0, q1, q2, q3, q4, q5, q6, qf, ql⟩ := seven hr4))
  all_goals
    go_wp2_with fail
    have hb3 := HB3.out
    have hb4 := HB4.out
    have hbr : Below (w.heap.size + 2) ((w.alloc (eblk q a)).alloc zeroblk) w4 := by (repeat' (first | (with_reducible assumption) | (with_reducible exact Below.refl _ _) | (with_reducible refine below_drewN ?_ _) | (with_reducible refine Below.drew ?_) | (with_reducible refine Below.alloc ?_ ?_ _) | (with_reducible refine Below.setCell ?_ ?_ _) | (with_reducible refine Below.trans ?_ (Below.mono (by assumption) ?_)) | (with_reducible exact Nat.le_refl _) | (with_reducible assumption) | omega | (simp; omega) | (simp; done)))
    have hr : w4.heap[w.heap.size + 1]? = some zeroblk := (hbr.block _ (by omega)).trans HT.out.2
    obtain ⟨r0, r1, r2, r3, r4, r5, r6, rf, rl⟩ := seven hr
    refine bodyPost_ret (v := elE q r) (by simp [results, Try.results105, go_sem, r0, r1, r2, r3, r4, r5, r6]) rfl ⟨rfl, ?_⟩
    (repeat' (first | (with_reducible assumption) | (with_reducible exact Below.refl _ _) | (with_reducible refine below_drewN ?_ _) | (with_reducible refine Below.drew ?_) | (with_reducible refine Below.alloc ?_ ?_ _) | (with_reducible refine Below.setCell ?_ ?_ _) | (with_reducible refine Below.trans ?_ (Below.mono (by assumption) ?_)) | (with_reducible exact Nat.le_refl _) | (with_reducible assumption) | omega | (simp; omega) | (simp; done)))
theorem impl_TraceOf_yes (q a : Int) (w : World) (ha : inE q a = true) :
    Calls Try.prog 47 #[.int .i64 q, .int .i64 a] w fun e w' => e = .returned (.tuple #[.int .i64 (traTo q a (plN q)), .bool true]) ∧ Below w.heap.size w w' := by
  obtain ⟨h, a0, a1⟩ := inE_yes ha
  have ht := traTo_bd q a h a0 a1 (plN q)
  have HF := Lib.hid (fun w => elementOf_yes q a w ha)
  have HT := Lib.hid (fun w => traceE q a w h a0 a1)
  have HN := Lib.hid (fun w => numberE q (traTo q a (plN q)) w h ht.1 ht.2)
  clear h ha ht
  generalize traTo q a (plN q) = r at *
  go_enter Try.func47, Try.ntmps47
  go_wp2_with fail
  refine (HF.out _).mono ?_
  rintro e w1 ⟨rfl, hb1⟩
  have hz_hb1 := hb1.size; (try simp at hz_hb1)
  have HB1 := Lib.hid hb1; clear hb1
  go_wp2_with fail
  refine (HT.out _).mono ?_
  rintro e w2 ⟨rfl, hb2⟩
  have hz_hb2 := hb2.size; (try simp at hz_hb2)
  have HB2 := Lib.hid hb2; clear hb2
  go_wp2_with fail
  refine (HN.out _).mono ?_
  rintro e w3 ⟨rfl, hb3⟩
  have hz_hb3 := hb3.size; (try simp at hz_hb3)
  have HB3 := Lib.hid hb3; clear hb3
  go_wp2
  go_ret2
  have hb1 := HB1.out
  have hb2 := HB2.out
  have hb3 := HB3.out
  exact ⟨rfl, by (repeat' (first | (with_reducible assumption) | (with_reducible exact Below.refl _ _) | (with_reducible refine below_drewN ?_ _) | (with_reducible refine Below.drew ?_) | (with_reducible refine Below.alloc ?_ ?_ _) | (with_reducible refine Below.setCell ?_ ?_ _) | (with_reducible refine Below.trans ?_ (Below.mono (by assumption) ?_)) | (with_reducible exact Nat.le_refl _) | (with_reducible assumption) | omega | (simp; omega) | (simp; done)))⟩
theorem impl_TraceOf_no (q a : Int) (w : World) (ha : inE q a = false) :
    Calls Try.prog 47 #[.int .i64 q, .int .i64 a] w fun e w' => e = .returned (.tuple #[.int .i64 0, .bool false]) ∧ Below w.heap.size w w' := by
  have HC := Lib.hid (fun w => elementOf_no q a w ha)
  clear ha
  go_enter Try.func47, Try.ntmps47
  go_wp2_with fail
  refine (HC.out _).mono ?_
  rintro e w1 ⟨rfl, hb1⟩
  have hz_hb1 := hb1.size; (try simp at hz_hb1)
  have HB1 := Lib.hid hb1; clear hb1
  go_wp2_with fail
  go_ret2
  have hb1 := HB1.out
  exact ⟨rfl, by (repeat' (first | (with_reducible assumption) | (with_reducible exact Below.refl _ _) | (with_reducible refine below_drewN ?_ _) | (with_reducible refine Below.drew ?_) | (with_reducible refine Below.alloc ?_ ?_ _) | (with_reducible refine Below.setCell ?_ ?_ _) | (with_reducible refine Below.trans ?_ (Below.mono (by assumption) ?_)) | (with_reducible exact Nat.le_refl _) | (with_reducible assumption) | omega | (simp; omega) | (simp; done)))⟩
theorem key_TraceOf (q : Int) (a : Int) : ∃ (r : Int) (o : Bool), (∀ (w : World), Calls Try.prog 48 #[.int .i64 q, .int .i64 a] w fun e w' => e = .returned (.tuple #[.int .i64 r, .bool o]) ∧ Below w.heap.size w w') ∧
      (∀ (w : World), Calls Try.prog 47 #[.int .i64 q, .int .i64 a] w fun e w' => e = .returned (.tuple #[.int .i64 r, .bool o]) ∧ Below w.heap.size w w') := by
  cases h : inE q a with
  | false => exact ⟨_, _, fun w => spec_TraceOf_no q a w h, fun w => impl_TraceOf_no q a w h⟩
  | true => exact ⟨_, _, fun w => spec_TraceOf_yes q a w h, fun w => impl_TraceOf_yes q a w h⟩
end Go.Proofs.Ytapglncgicfjnaa
