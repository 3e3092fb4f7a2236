/- Bytes that came in, as the draws read them. -/
import Derived.Test.YtpjlolnnbbgikaaDR
import Derived.Test.YtpjlolnnbbgikaaDS
namespace Go.Proofs.Ytpjlolnnbbgikaa
open Go.RowKit
theorem IsRow.bys {w : World} {a : Option Addr} {n c : Nat} {z : List Int} (h : IsRow .u8 w a n c z) (hn : n ≤ 1048576) : Bys w a n := by
  refine ⟨hn, fun i hi => ?_⟩
  rcases h with ⟨_, rfl, _⟩ | ⟨x, rfl, hl, hm, hz, hcell, hwz⟩
  · omega
  · obtain ⟨b, off, spot⟩ := x
    have hc := hcell 0 (by omega)
    have hspot : spot = none := by simpa [Addr.add] using World.cell?_spot hc
    subst hspot
    have h1 := hcell i (by omega)
    have e : (⟨b, off, none⟩ : Addr).add i = ⟨b, off + i, none⟩ := by by_cases h0 : i = 0 <;> simp [Addr.add, h0]
    rw [e] at h1
    have hmem : z.getD i 0 ∈ z := by
      rw [show z.getD i 0 = z[i]'(by omega) by simp [List.getD, show i < z.length by omega]]
      exact List.getElem_mem _
    have hw := hwz _ hmem
    simp only [Lit.wf, Bool.and_eq_true, decide_eq_true_eq] at hw
    have e1 : IntKind.u8.min = 0 := by decide
    have e2 : IntKind.u8.max = 255 := by decide
    rw [e1, e2] at hw
    exact ⟨b, off, _, rfl, World.block_lt_of_cell? w _ h1, h1, hw.1, by omega⟩
/-- The digits that DigitsOf returns. -/
def dgl (q a : Int) : List Int := if inE q a = true then digs (plN q) (pr q) a else []
theorem dgl_len {q a : Int} (h : inE q a = true) : (dgl q a).length = plN q := by
  rw [dgl, if_pos h, digs_len]
theorem in2_of {q x y : Int} (h : isSz q = true) (hx : El q x) (hy : El q y) : in2 q x y = true := by
  simp [in2, inE, h, hx.1, hx.2, hy.1, hy.2]
theorem El.sub {q a b : Int} (h : isSz q = true) (ha : El q a) (hb : El q b) : El q (subF q a b) := subF_bd q a b h ha.1 ha.2 hb.1 hb.2
set_option maxRecDepth 100000 in
theorem sub_add' {q a b : Int} (h : isSz q = true) (ha : El q a) (hb : El q b) : addF q (subF q a b) b = a :=
  of_decide_eq_true (of_chk2 (f := fun q a b => decide (addF q (subF q a b) b = a)) (by decide +kernel) q a b h ha.1 ha.2 hb.1 hb.2)
set_option maxRecDepth 100000 in
theorem mul_unit' {q a : Int} (h : isSz q = true) (ha : El q a) : mulF q a 1 = a :=
  of_decide_eq_true (of_chk1 (f := fun q a => decide (mulF q a 1 = a)) (by decide +kernel) q a h ha.1 ha.2)
set_option maxRecDepth 100000 in
theorem mul_none {q a b : Int} (h : isSz q = true) (ha : El q a) (hb : El q b) : (mulF q a b == 0) = ((a == 0) || (b == 0)) :=
  eq_of_beq (of_chk2 (f := fun q a b => (mulF q a b == 0) == ((a == 0) || (b == 0))) (by decide +kernel) q a b h ha.1 ha.2 hb.1 hb.2)
end Go.Proofs.Ytpjlolnnbbgikaa
