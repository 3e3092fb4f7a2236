/- A bundle of texts: C N O U V Y DS DT. -/
import Derived.WalkSmall
import Derived.Deep.QuietTactic
import Derived.BigQuiet
import Derived.Test.YtapglncgicfjnabGreatKB
import Derived.Test.YtapglncgicfjnabGreatKE
import Derived.Test.YtapglncgicfjnabGreatKF
import Derived.Test.YtapglncgicfjnabGreatKC
import Derived.Test.YtapglncgicfjnabGreatKG
import Derived.Test.YtapglncgicfjnabGreatDR
namespace Go.Proofs.YtapglncgicfjnabGreat
open Go.RowKit
/-- impl.IsSize. -/
theorem impl_IsSize (q : Int) (w : World) :
    Calls Tryz.prog 29 #[.int .i64 q] w fun e w' => e = .returned (.bool (isSz q)) ∧ Below w.heap.size w w' := by
  cases h : isSz q with
  | true =>
    go_enter Tryz.func29, Tryz.ntmps29
    go_wp2_with (first | (go_at_call 67; refine (fieldOf_yes _ _ h).mono ?_; rintro e w1 ⟨rfl, hb⟩; have hz_hb := hb.size; (try simp at hz_hb)))
    go_ret
    exact ⟨rfl, by (repeat' (first | (with_reducible assumption) | (with_reducible exact Below.refl _ _) | (with_reducible refine below_drewN ?_ _) | (with_reducible refine Below.drew ?_) | (with_reducible refine Below.alloc ?_ ?_ _) | (with_reducible refine Below.setCell ?_ ?_ _) | (with_reducible refine Below.trans ?_ (Below.mono (by assumption) ?_)) | (with_reducible exact Nat.le_refl _) | (with_reducible assumption) | omega | (simp; omega) | (simp; done)))⟩
  | false =>
    go_enter Tryz.func29, Tryz.ntmps29
    go_wp2_with (first | (go_at_call 67; refine (fieldOf_no _ _ h).mono ?_; rintro e w1 ⟨rfl, hb⟩; have hz_hb := hb.size; (try simp at hz_hb)))
    go_ret
    exact ⟨rfl, by (repeat' (first | (with_reducible assumption) | (with_reducible exact Below.refl _ _) | (with_reducible refine below_drewN ?_ _) | (with_reducible refine Below.drew ?_) | (with_reducible refine Below.alloc ?_ ?_ _) | (with_reducible refine Below.setCell ?_ ?_ _) | (with_reducible refine Below.trans ?_ (Below.mono (by assumption) ?_)) | (with_reducible exact Nat.le_refl _) | (with_reducible assumption) | omega | (simp; omega) | (simp; done)))⟩
theorem dg_get (q a : Int) (j : Nat) : (digs (plN q) (pr q) a)[j]?.getD 0 = dg q a j := by simp [dg, List.getD]
/-- The modulus, whole. -/
def mdlW (q : Int) : List Int := mdl q ++ [1]
theorem mdlW_len (q : Int) (h : isSz q = true) : (mdlW q).length = plN q + 1 := by
  rw [mdlW, List.length_append, (mdl_len q h).1]
  rfl
theorem modE (q : Int) (h : isSz q = true) : ∃ x0 x1 x2 x3 x4 : Int, (∀ w, Calls Tryz.prog 223 #[fdE q] w fun e w' => e = .returned (.agg #[.int .i64 x0, .int .i64 x1, .int .i64 x2, .int .i64 x3, .int .i64 x4]) ∧ Below w.heap.size w w') ∧
    (mdlW q) = [x0, x1, x2, x3, x4].take (plN q + 1) := by
  have hb : ∀ (w w' : World) (A B : Obj), (w.alloc A).alloc B = w' → Below w.heap.size w w' := by
    rintro w w' A B rfl
    exact ((Below.refl _ _).alloc (Nat.le_refl _) _).alloc (by simp) _
  rcases five q h with ⟨hk, hp, q2, q13, n4, n8, n9, n16⟩ | rfl | rfl | rfl | rfl
  · refine ⟨0, 1, 0, 0, 0, fun w => ?_, by simp [mdlW, mdl, hk, n4, n8, n9, n16]⟩
    rw [show fdE q = .agg #[.int .i64 q, .int .i64 q, .int .i64 1] from by simp [fdE, pl, hk, hp]]
    exact (modulus_one q w (by simp [n4]) (by simp [n8]) (by simp [n9]) (by simp [n16])).mono fun _ _ ⟨he, hw⟩ => ⟨he, hb _ _ _ _ hw⟩
  · refine ⟨1, 1, 1, 0, 0, fun w => ?_, rfl⟩
    rw [show fdE 4 = .agg #[.int .i64 4, .int .i64 2, .int .i64 2] from by simp [fdE, pl, pr, plN]]
    exact (modulus_4 w).mono fun _ _ ⟨he, hw⟩ => ⟨he, hb _ _ _ _ hw⟩
  · refine ⟨1, 1, 0, 1, 0, fun w => ?_, rfl⟩
    rw [show fdE 8 = .agg #[.int .i64 8, .int .i64 2, .int .i64 3] from by simp [fdE, pl, pr, plN]]
    exact (modulus_8 w).mono fun _ _ ⟨he, hw⟩ => ⟨he, hb _ _ _ _ hw⟩
  · refine ⟨1, 0, 1, 0, 0, fun w => ?_, rfl⟩
    rw [show fdE 9 = .agg #[.int .i64 9, .int .i64 3, .int .i64 2] from by simp [fdE, pl, pr, plN]]
    exact (modulus_9 w).mono fun _ _ ⟨he, hw⟩ => ⟨he, hb _ _ _ _ hw⟩
  · refine ⟨1, 1, 0, 0, 1, fun w => ?_, rfl⟩
    rw [show fdE 16 = .agg #[.int .i64 16, .int .i64 2, .int .i64 4] from by simp [fdE, pl, pr, plN]]
    exact (modulus_16 w).mono fun _ _ ⟨he, hw⟩ => ⟨he, hb _ _ _ _ hw⟩

/-- Two elements of one field. -/
def in2 (q a b : Int) : Bool := inE q a && inE q b
theorem in2_yes {q a b : Int} (h : in2 q a b = true) : inE q a = true ∧ inE q b = true := by
  unfold in2 at h
  exact (Bool.and_eq_true _ _).mp h
/-- The result of a function of two elements. -/
def rs2 (f : Int → Int → Int → Int) (q a b : Int) : Int := if in2 q a b = true then f q a b else 0
theorem rs2_yes {f : Int → Int → Int → Int} {q a b : Int} (h : in2 q a b = true) : rs2 f q a b = f q a b := if_pos h
theorem big_no (a0 a1 : Option Addr) (n0 c0 n1 c1 : Nat) (w : World) (h : n0 + n1 ≤ 1048576) :
    Calls Tryz.prog 7 #[.slice a0 n0 c0, .slice a1 n1 c1] w fun e w' => e = .returned (.bool false) ∧ w = w' := by
  have h1 : ¬ (1048576 : Int) < (n0 : Int) := by omega
  have h2 : ¬ (1048576 : Int) - (n0 : Int) < (n1 : Int) := by omega
  have hw : IntKind.i64.wrap (1048576 - (n0 : Int)) = 1048576 - (n0 : Int) := IntWalk.i64_in _ (by omega)
  go_enter Tryz.func7, Tryz.ntmps7
  go_wp2
  go_ret
  exact ⟨by first | rfl | simp [h2], by first | rfl | trivial⟩
theorem IsRow.bys {w : World} {a : Option Addr} {n c : Nat} {z : List Int} (h : IsRow .u8 w a n c z) (hn : n ≤ 1048576) : Bys w a n := by
  refine ⟨hn, fun i hi => ?_⟩
  rcases h with ⟨_, rfl, _⟩ | ⟨x, rfl, hl, hm, hz, hcell, hwz⟩
  · omega
  · obtain ⟨b, off, spot⟩ := x
    have hc := hcell 0 (by omega)
    have hspot : spot = none := by simpa [Addr.add] using World.cell?_spot hc
    subst hspot
    have h1 := hcell i (by omega)
    have e : (⟨b, off, none⟩ : Addr).add i = ⟨b, off + i, none⟩ := by by_cases h0 : i = 0 <;> simp [Addr.add, h0]
    rw [e] at h1
    have hmem : z.getD i 0 ∈ z := by
      rw [show z.getD i 0 = z[i]'(by omega) by simp [List.getD, show i < z.length by omega]]
      exact List.getElem_mem _
    have hw := hwz _ hmem
    simp only [Lit.wf, Bool.and_eq_true, decide_eq_true_eq] at hw
    have e1 : IntKind.u8.min = 0 := by decide
    have e2 : IntKind.u8.max = 255 := by decide
    rw [e1, e2] at hw
    exact ⟨b, off, _, rfl, World.block_lt_of_cell? w _ h1, h1, hw.1, by omega⟩
/-- The digits that DigitsOf returns. -/
def dgl (q a : Int) : List Int := if inE q a = true then digs (plN q) (pr q) a else []
theorem dgl_len {q a : Int} (h : inE q a = true) : (dgl q a).length = plN q := by
  rw [dgl, if_pos h, digs_len]
theorem in2_of {q x y : Int} (h : isSz q = true) (hx : El q x) (hy : El q y) : in2 q x y = true := by
  simp [in2, inE, h, hx.1, hx.2, hy.1, hy.2]
theorem El.sub {q a b : Int} (h : isSz q = true) (ha : El q a) (hb : El q b) : El q (subF q a b) := subF_bd q a b h ha.1 ha.2 hb.1 hb.2
set_option maxRecDepth 100000 in
theorem sub_add' {q a b : Int} (h : isSz q = true) (ha : El q a) (hb : El q b) : addF q (subF q a b) b = a :=
  of_decide_eq_true (of_chk2 (f := fun q a b => decide (addF q (subF q a b) b = a)) (by decide +kernel) q a b h ha.1 ha.2 hb.1 hb.2)
set_option maxRecDepth 100000 in
theorem mul_unit' {q a : Int} (h : isSz q = true) (ha : El q a) : mulF q a 1 = a :=
  of_decide_eq_true (of_chk1 (f := fun q a => decide (mulF q a 1 = a)) (by decide +kernel) q a h ha.1 ha.2)
set_option maxRecDepth 100000 in
theorem mul_none {q a b : Int} (h : isSz q = true) (ha : El q a) (hb : El q b) : (mulF q a b == 0) = ((a == 0) || (b == 0)) :=
  eq_of_beq (of_chk2 (f := fun q a b => (mulF q a b == 0) == ((a == 0) || (b == 0))) (by decide +kernel) q a b h ha.1 ha.2 hb.1 hb.2)
end Go.Proofs.YtapglncgicfjnabGreat
