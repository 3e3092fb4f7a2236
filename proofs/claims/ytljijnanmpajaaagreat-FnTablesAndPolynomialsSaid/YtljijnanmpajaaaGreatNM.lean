/- Squares other than 0; SquareWaysPermute, of both, by contracts; the walk of its law. -/
import Derived.Test.YtljijnanmpajaaaGreatKI
import Derived.Test.YtljijnanmpajaaaGreatKH
namespace Go.Proofs.YtljijnanmpajaaaGreat
open Go.RowKit
/-- '==' on two elements, at their digits. -/
theorem eq_dg' (q x y : Int) (h : isSz q = true) (x0 : 0 ≤ x) (x1 : x < q) (y0 : 0 ≤ y) (y1 : y < q) (w : World) :
    (Op.equalIn 9999 65 (.agg #[.int .i64 (dg q x 0), .int .i64 (dg q x 1), .int .i64 (dg q x 2), .int .i64 (dg q x 3)]) (.agg #[.int .i64 (dg q y 0), .int .i64 (dg q y 1), .int .i64 (dg q y 2), .int .i64 (dg q y 3)])).run Tryz.prog w = .ok (decide (x = y)) w := by
  rw [← dg_inj q x y h x0 x1 y0 y1]
  exact eq_arr 65 Tryz.underlying65 _ _ _ _ _ _ _ _ 9997 w


/-- The property 'square'. -/
def isSqN (q : Int) (a : Nat) : Bool := isSq q (a : Int)

theorem TS.keep' {w0 wr w' : World} {q x : Int} {f : Nat → Int} {m S g B : Nat} (h : TS w0 wr q x f m S g) (hb : Below B wr w') (hg : g < B) : TS w0 w' q x f m S g := by
  have h0 := h.s0
  have h1 := h.lt
  exact ⟨(hb.block _ (by omega)).trans h.hs, h.hk.below hb hg, h.he.below hb hg, h.bel.trans (hb.mono (by omega)), h0, h1⟩

/-- A product of an element other than 0 with itself. -/
def nsq (q a : Int) : Bool := !decide (a = 0) && isSq q a
theorem nsq_zero (q : Int) : nsq q 0 = false := rfl
theorem nsq_is {q a : Int} (h : a ≠ 0) : nsq q a = isSq q a := by
  unfold nsq
  rw [decide_eq_false h]
  rfl
theorem nsq_pw {q a : Int} (h : isSz q = true) (ho : q % 2 = 1) (h0 : 0 < a) (h1 : a < q) : nsq q a = (pw q a ((q.toNat - 1) / 2) == 1) := by
  have key := of_chk1 (f := fun q a => decide (q % 2 = 1 → 0 < a → nsq q a = (pw q a ((q.toNat - 1) / 2) == 1))) (by decide +kernel) q a h (by omega) h1
  exact of_decide_eq_true key ho h0
/-- An odd size, and two elements. -/
def odp (q a b : Int) : Bool := (inE q a && inE q b) && decide (q % 2 = 1)
theorem odp_nat {q a b : Int} (h : odp q a b = true) : ∃ m : Nat, q = (m : Int) ∧ isSz (m : Int) = true ∧ (m : Int) % 2 = 1 ∧ inE (m : Int) a = true ∧ inE (m : Int) b = true := by
  simp only [odp, Bool.and_eq_true, decide_eq_true_eq] at h
  obtain ⟨⟨ha, hb⟩, ho⟩ := h
  have hs := (inE_yes ha).1
  have hq := isSz_le q hs
  obtain ⟨m, rfl⟩ := Int.eq_ofNat_of_zero_le (show 0 ≤ q by omega)
  exact ⟨m, rfl, hs, ho, ha, hb⟩
end Go.Proofs.YtljijnanmpajaaaGreat
