/- The element's methods by numbers: an element is told by its number. -/
import Derived.Test.YthklnfanbegecacI
import Derived.Deep.RegionWith
namespace Go.Proofs.Ythklnfanbegecac
open Go.RowKit
/-- An element by its number, written out. -/
abbrev elE (q a : Int) : Value := .agg #[.int .i64 q, .int .i64 (pr q), .int .i64 (pl q), .int .i64 (dg q a 0), .int .i64 (dg q a 1), .int .i64 (dg q a 2), .int .i64 (dg q a 3)]
/-- A field, written out. -/
abbrev fdE (q : Int) : Value := .agg #[.int .i64 q, .int .i64 (pr q), .int .i64 (pl q)]
theorem elementE (q a : Int) (w : World) (h : isSz q = true) (a0 : 0 ≤ a) (a1 : a < q) :
    Calls Try.prog 43 #[fdE q, .int .i64 a] w fun e w' => e = .returned (elE q a) ∧ Below w.heap.size w w' := element_any q a w h a0 a1
theorem numberE (q a : Int) (w : World) (h : isSz q = true) (a0 : 0 ≤ a) (a1 : a < q) :
    Calls Try.prog 37 #[elE q a] w fun e w' => e = .returned (.int .i64 a) ∧ Below w.heap.size w w' := number_any q a w h a0 a1
theorem timesXE (q a : Int) (w : World) (h : isSz q = true) (a0 : 0 ≤ a) (a1 : a < q) :
    Calls Try.prog 76 #[elE q a] w fun e w' => e = .returned (elE q (tXF q a)) ∧ Below w.heap.size w w' := timesX_any q a w h a0 a1
theorem plusE (q a b : Int) (w : World) (h : isSz q = true) (a0 : 0 ≤ a) (a1 : a < q) (b0 : 0 ≤ b) (b1 : b < q) :
    Calls Try.prog 63 #[elE q a, elE q b] w fun e w' => e = .returned (elE q (addF q a b)) ∧ Below w.heap.size w w' := by
  have hp := pr_bd q h
  have hk := plN_bd q h
  obtain ⟨e0, e1, e2, e3⟩ := add_dg q a b h a0 a1 b0 b1
  have c := plus_dig q (pr q) (dg q a 0) (dg q a 1) (dg q a 2) (dg q a 3) (dg q b 0) (dg q b 1) (dg q b 2) (dg q b 3) (plN q) w hk.1 hk.2 hp.1 hp.2
    (dg_bd q a 0 h).1 (dg_bd q a 0 h).2 (dg_bd q a 1 h).1 (dg_bd q a 1 h).2 (dg_bd q a 2 h).1 (dg_bd q a 2 h).2 (dg_bd q a 3 h).1 (dg_bd q a 3 h).2
    (dg_bd q b 0 h).1 (dg_bd q b 0 h).2 (dg_bd q b 1 h).1 (dg_bd q b 1 h).2 (dg_bd q b 2 h).1 (dg_bd q b 2 h).2 (dg_bd q b 3 h).1 (dg_bd q b 3 h).2
  rw [e0, e1, e2, e3] at c
  exact c
theorem negE (q a : Int) (w : World) (h : isSz q = true) (a0 : 0 ≤ a) (a1 : a < q) :
    Calls Try.prog 55 #[elE q a] w fun e w' => e = .returned (elE q (subF q 0 a)) ∧ Below w.heap.size w w' := by
  have hp := pr_bd q h
  have hk := plN_bd q h
  obtain ⟨e0, e1, e2, e3⟩ := neg_dg q a h a0 a1
  have c := neg_dig q (pr q) (dg q a 0) (dg q a 1) (dg q a 2) (dg q a 3) (plN q) w hk.1 hk.2 hp.1 hp.2
    (dg_bd q a 0 h).1 (dg_bd q a 0 h).2 (dg_bd q a 1 h).1 (dg_bd q a 1 h).2 (dg_bd q a 2 h).1 (dg_bd q a 2 h).2 (dg_bd q a 3 h).1 (dg_bd q a 3 h).2
  rw [e0, e1, e2, e3] at c
  exact c
theorem scaledE (q a c : Int) (w : World) (h : isSz q = true) (a0 : 0 ≤ a) (a1 : a < q) (c0 : 0 ≤ c) (c1 : c < pr q) :
    Calls Try.prog 77 #[elE q a, .int .i64 c] w fun e w' => e = .returned (elE q (mulF q c a)) ∧ Below w.heap.size w w' := by
  have hp := pr_bd q h
  have hk := plN_bd q h
  obtain ⟨e0, e1, e2, e3⟩ := scl_dg q a c h a0 a1 c0 c1
  have c := scaled_dig q (pr q) (dg q a 0) (dg q a 1) (dg q a 2) (dg q a 3) c (plN q) w hk.1 hk.2 hp.1 hp.2 c0 c1
    (dg_bd q a 0 h).1 (dg_bd q a 0 h).2 (dg_bd q a 1 h).1 (dg_bd q a 1 h).2 (dg_bd q a 2 h).1 (dg_bd q a 2 h).2 (dg_bd q a 3 h).1 (dg_bd q a 3 h).2
  rw [e0, e1, e2, e3] at c
  exact c

set_option maxHeartbeats 400000 in
/-- impl.field.zero and one. -/
theorem zeroE (q : Int) (w : World) (h : isSz q = true) :
    Calls Try.prog 61 #[fdE q] w fun e w' => e = .returned (elE q 0) ∧ Below w.heap.size w w' := by
  have HC := Lib.hid (fun w => elementE q 0 w h (Int.le_refl _) (by have := isSz_le q h; omega))
  clear h
  go_enter Try.func61, Try.ntmps61
  go_wp2_with fail
  refine (HC.out _).mono ?_
  rintro e w1 ⟨rfl, hb⟩
  obtain ⟨hc, hf⟩ := bcell hb
  have hz_hb := hb.size; (try simp at hz_hb)
  have HB := Lib.hid hb; clear hb
  go_wp2
  refine bodyPost_ret (v := elE q 0) (by simp [results, Try.results61, go_sem, hc]) rfl ⟨rfl, by have hb := HB.out; (repeat' (first | (with_reducible assumption) | (with_reducible exact Below.refl _ _) | (with_reducible refine below_drewN ?_ _) | (with_reducible refine Below.drew ?_) | (with_reducible refine Below.alloc ?_ ?_ _) | (with_reducible refine Below.setCell ?_ ?_ _) | (with_reducible refine Below.trans ?_ (Below.mono (by assumption) ?_)) | (with_reducible exact Nat.le_refl _) | (with_reducible assumption) | omega | (simp; omega) | (simp; done)))⟩
set_option maxHeartbeats 400000 in
/-- impl.field.one. -/
theorem oneE (q : Int) (w : World) (h : isSz q = true) :
    Calls Try.prog 39 #[fdE q] w fun e w' => e = .returned (elE q 1) ∧ Below w.heap.size w w' := by
  have HC := Lib.hid (fun w => elementE q 1 w h (by decide) (by have := isSz_le q h; omega))
  clear h
  go_enter Try.func39, Try.ntmps39
  go_wp2_with fail
  refine (HC.out _).mono ?_
  rintro e w1 ⟨rfl, hb⟩
  obtain ⟨hc, hf⟩ := bcell hb
  have hz_hb := hb.size; (try simp at hz_hb)
  have HB := Lib.hid hb; clear hb
  go_wp2
  refine bodyPost_ret (v := elE q 1) (by simp [results, Try.results39, go_sem, hc]) rfl ⟨rfl, by have hb := HB.out; (repeat' (first | (with_reducible assumption) | (with_reducible exact Below.refl _ _) | (with_reducible refine below_drewN ?_ _) | (with_reducible refine Below.drew ?_) | (with_reducible refine Below.alloc ?_ ?_ _) | (with_reducible refine Below.setCell ?_ ?_ _) | (with_reducible refine Below.trans ?_ (Below.mono (by assumption) ?_)) | (with_reducible exact Nat.le_refl _) | (with_reducible assumption) | omega | (simp; omega) | (simp; done)))⟩

end Go.Proofs.Ythklnfanbegecac
