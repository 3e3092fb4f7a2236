/- Bytes that came in, as the draws read them. -/
import Derived.Test.YtaldlkokbpidiaaDR
import Derived.Test.YtaldlkokbpidiaaDS
namespace Go.Proofs.Ytaldlkokbpidiaa
open Go.RowKit
theorem IsRow.bys {w : World} {a : Option Addr} {n c : Nat} {z : List Int} (h : IsRow .u8 w a n c z) (hn : n ≤ 1048576) : Bys w a n := by
  refine ⟨hn, fun i hi => ?_⟩
  rcases h with ⟨_, rfl, _⟩ | ⟨x, rfl, hl, hm, hz, hcell, hwz⟩
  · omega
  · obtain ⟨b, off, spot⟩ := x
    have hc := hcell 0 (by omega)
    have hspot : spot = none := by simpa [Addr.add] using World.cell?_spot hc
    subst hspot
    have h1 := hcell i (by omega)
    have e : (⟨b, off, none⟩ : Addr).add i = ⟨b, off + i, none⟩ := by by_cases h0 : i = 0 <;> simp [Addr.add, h0]
    rw [e] at h1
    have hmem : z.getD i 0 ∈ z := by
      rw [show z.getD i 0 = z[i]'(by omega) by simp [List.getD, show i < z.length by omega]]
      exact List.getElem_mem _
    have hw := hwz _ hmem
    simp only [Lit.wf, Bool.and_eq_true, decide_eq_true_eq] at hw
    have e1 : IntKind.u8.min = 0 := by decide
    have e2 : IntKind.u8.max = 255 := by decide
    rw [e1, e2] at hw
    exact ⟨b, off, _, rfl, World.block_lt_of_cell? w _ h1, h1, hw.1, by omega⟩
theorem impl_PrimeOf_any (q : Int) (w : World) : Calls Try.prog 14 #[.int .i64 q] w fun e w' => e = .returned (.tuple #[.int .i64 (if isSz q = true then pr q else 0), .int .i64 (if isSz q = true then pl q else 0), .bool (isSz q)]) ∧ Below w.heap.size w w' := by
  cases h : isSz q
  · exact impl_PrimeOf_no q w h
  · exact impl_PrimeOf_yes q w h
theorem spec_PrimeOf_any (q : Int) (w : World) : Calls Try.prog 22 #[.int .i64 q] w fun e w' => e = .returned (.tuple #[.int .i64 (if isSz q = true then pr q else 0), .int .i64 (if isSz q = true then pl q else 0), .bool (isSz q)]) ∧ Below w.heap.size w w' := by
  cases h : isSz q
  · exact spec_PrimeOf_no q w h
  · exact spec_PrimeOf_yes q w h
/-- The digits that DigitsOf returns. -/
def dgl (q a : Int) : List Int := if inE q a = true then digs (plN q) (pr q) a else []
theorem dgl_len {q a : Int} (h : inE q a = true) : (dgl q a).length = plN q := by
  rw [dgl, if_pos h, digs_len]
theorem impl_DigitsOf_any (q a : Int) (w : World) : Calls Try.prog 15 #[.int .i64 q, .int .i64 a] w fun e w' => ∃ v, e = .returned (.tuple #[v, .bool (inE q a)]) ∧ Row w' w.heap.size v (dgl q a) ∧ Below w.heap.size w w' := by
  unfold dgl
  cases h : inE q a
  · exact (impl_DigitsOf_no q a w h).mono fun _ _ ⟨he, hb⟩ => ⟨_, he, Row.nil _ _, hb⟩
  · exact impl_DigitsOf_yes q a w h
theorem spec_DigitsOf_any (q a : Int) (w : World) : Calls Try.prog 19 #[.int .i64 q, .int .i64 a] w fun e w' => ∃ v, e = .returned (.tuple #[v, .bool (inE q a)]) ∧ Row w' w.heap.size v (dgl q a) ∧ Below w.heap.size w w' := by
  unfold dgl
  cases h : inE q a
  · exact (spec_DigitsOf_no q a w h).mono fun _ _ ⟨he, hb⟩ => ⟨_, he, Row.nil _ _, hb⟩
  · exact spec_DigitsOf_yes q a w h
/-- What laws.pPlus and pTimes return. -/
def PP (q x y z : Int) : Prop := ∀ w, Calls Try.prog 12 #[.int .i64 q, .int .i64 x, .int .i64 y] w fun e w' => e = .returned (.int .i64 z) ∧ Below w.heap.size w w'
def TT (q x y z : Int) : Prop := ∀ w, Calls Try.prog 13 #[.int .i64 q, .int .i64 x, .int .i64 y] w fun e w' => e = .returned (.int .i64 z) ∧ Below w.heap.size w w'
theorem in2_of {q x y : Int} (h : isSz q = true) (hx : El q x) (hy : El q y) : in2 q x y = true := by
  simp [in2, inE, h, hx.1, hx.2, hy.1, hy.2]
theorem PP.of {q x y z : Int} (h : isSz q = true) (hx : El q x) (hy : El q y) (e : addF q x y = z) : PP q x y z := fun w => by
  have := pPlus_any q x y w
  rw [rs2_yes (in2_of h hx hy), e] at this
  exact this
theorem TT.of {q x y z : Int} (h : isSz q = true) (hx : El q x) (hy : El q y) (e : mulF q x y = z) : TT q x y z := fun w => by
  have := pTimes_any q x y w
  rw [rs2_yes (in2_of h hx hy), e] at this
  exact this
theorem El.sub {q a b : Int} (h : isSz q = true) (ha : El q a) (hb : El q b) : El q (subF q a b) := subF_bd q a b h ha.1 ha.2 hb.1 hb.2
set_option maxRecDepth 100000 in
theorem sub_add' {q a b : Int} (h : isSz q = true) (ha : El q a) (hb : El q b) : addF q (subF q a b) b = a :=
  of_decide_eq_true (of_chk2 (f := fun q a b => decide (addF q (subF q a b) b = a)) (by decide +kernel) q a b h ha.1 ha.2 hb.1 hb.2)
set_option maxRecDepth 100000 in
theorem mul_unit' {q a : Int} (h : isSz q = true) (ha : El q a) : mulF q a 1 = a :=
  of_decide_eq_true (of_chk1 (f := fun q a => decide (mulF q a 1 = a)) (by decide +kernel) q a h ha.1 ha.2)
set_option maxRecDepth 100000 in
theorem mul_none {q a b : Int} (h : isSz q = true) (ha : El q a) (hb : El q b) : (mulF q a b == 0) = ((a == 0) || (b == 0)) :=
  eq_of_beq (of_chk2 (f := fun q a b => (mulF q a b == 0) == ((a == 0) || (b == 0))) (by decide +kernel) q a b h ha.1 ha.2 hb.1 hb.2)
/-- What the law asks of two elements and a third one. -/
theorem fields_ask {q a b c : Int} (h : isSz q = true) (ha : El q a) (hb : El q b) (hc : El q c) : ∃ s d p bc sc mbc mpc cs ca cb : Int, addF q a b = s ∧ subF q a b = d ∧ mulF q a b = p ∧ El q s ∧
    PP q d b a ∧ PP q b a s ∧ TT q b a p ∧ PP q b c bc ∧ PP q a bc sc ∧ PP q s c sc ∧ TT q b c mbc ∧ TT q a mbc mpc ∧ TT q p c mpc ∧ TT q c s cs ∧ TT q c a ca ∧ TT q c b cb ∧ PP q ca cb cs ∧ PP q a 0 a ∧ TT q a 1 a ∧ (p == 0) = ((a == 0) || (b == 0)) :=
  ⟨_, _, _, addF q b c, addF q a (addF q b c), mulF q b c, mulF q a (mulF q b c), mulF q c (addF q a b), mulF q c a, mulF q c b, rfl, rfl, rfl, ha.add h hb,
    PP.of h (ha.sub h hb) hb (sub_add' h ha hb), PP.of h hb ha (add_comm' h hb ha), TT.of h hb ha (mul_comm' h hb ha), PP.of h hb hc rfl, PP.of h ha (hb.add h hc) rfl, PP.of h (ha.add h hb) hc (add_assoc' h ha hb hc),
    TT.of h hb hc rfl, TT.of h ha (hb.mul h hc) rfl, TT.of h (ha.mul h hb) hc (mulF_assoc q a b c h ha.1 ha.2 hb.1 hb.2 hc.1 hc.2), TT.of h hc (ha.add h hb) rfl, TT.of h hc ha rfl, TT.of h hc hb rfl,
    PP.of h (hc.mul h ha) (hc.mul h hb) (mul_add' h hc ha hb).symm, PP.of h ha (El.zero h) (add_zero' h ha).1, TT.of h ha (El.one h) (mul_unit' h ha), mul_none h ha hb⟩
end Go.Proofs.Ytaldlkokbpidiaa
