/- Operations on polynomials, of the program and of the model, told by tables: the product with x, sums, multiples, joined ones, numbers. -/
import Derived.Test.YtimpgbifnijkkabGreatND
import Derived.Test.YtimpgbifnijkkabGreatKO
namespace Go.Proofs.YtimpgbifnijkkabGreat
open Go.RowKit
/-- impl.poly.plus. -/
theorem plusT (m : Nat) (v1 v2 : Value) (t u : Nat → Int) (w : World) (h : isSz (m : Int) = true) (hv1 : IsP w v1 m t) (hv2 : IsP w v2 m u) :
    Calls Tryz.prog 92 #[polyE (m : Int) v1, polyE (m : Int) v2] w fun e w' => ∃ v', e = .returned (polyE (m : Int) v') ∧ IsP w' v' m (fun a => addF m (t a) (u a)) ∧ Below w.heap.size w w' := by
  obtain ⟨g1, n1, cap1, f1, rfl, hg1, he1, ht1⟩ := hv1
  obtain ⟨g2, n2, cap2, f2, rfl, hg2, he2, ht2⟩ := hv2
  refine (plusPE m n1 n2 _ _ f1 f2 w h ⟨g1, cap1, rfl, hg1, he1⟩ ⟨g2, cap2, rfl, hg2, he2⟩ ht1.el ht2.el ht1.le ht2.le ht1.past ht2.past).mono ?_
  rintro e w' ⟨g, cap, rfl, hg, he, hb⟩
  exact ⟨_, rfl, ⟨g, _, cap, _, rfl, hg, he, tb_plsR h ht1 ht2⟩, hb⟩
/-- impl.poly.numbers. -/
theorem numbersT (m : Nat) (v : Value) (t : Nat → Int) (w : World) (h : isSz (m : Int) = true) (hv : IsP w v m t) :
    Calls Tryz.prog 42 #[polyE (m : Int) v] w fun e w' => ∃ v', e = .returned v' ∧ Row w' w.heap.size v' (ptl m t) ∧ Below w.heap.size w w' := by
  have hq := isSz_le (m : Int) h
  obtain ⟨g1, n1, cap1, f1, rfl, hg1, he1, ht1⟩ := hv
  have := numbersE (m : Int) _ f1 n1 w h ⟨g1, cap1, rfl, hg1, he1⟩ (fun i _ => ht1.el i) (by have := ht1.le; omega)
  rw [ht1.same h] at this
  exact this
theorem tb_cmp {m n k : Nat} {f g t u : Nat → Int} (h : isSz (m : Int) = true) (p : Tb m f n t) (r : Tb m g k u) : Tb m (cmp m f n g k n).1 (cmp m f n g k n).2 (fun a => t (u a).toNat) := by
  have ok := cmp_ok (n := n) (k := k) h p.el r.el n
  refine ⟨ok.el, ok.le, ok.past, ok.tr, fun a ha => ?_⟩
  have hu := r.tel h a ha
  have hz : u a = ((u a).toNat : Int) := by have := hu.1; omega
  rw [cmp_hor h p.el r.el (El.nat ha), hor_val h (val_el h r.el (El.nat ha) k) p.el n, r.short h a ha, ← p.short h (u a).toNat (by have := hu.2; omega), ← hz]
/-- A list as read, and the table of its reduced polynomial. -/
def IsL (w : World) (v : Value) (m : Nat) (t : Nat → Int) : Prop := ∃ f n, Sl w v (fl f n) ∧ Tb m f n t
/-- A list of the call's own, and the table of its reduced polynomial. -/
def RowT (w : World) (B : Nat) (v : Value) (m : Nat) (t : Nat → Int) : Prop := ∃ f n, Row w B v (fl f n) ∧ Tb m f n t
theorem RowT.isL {w : World} {B m : Nat} {v : Value} {t : Nat → Int} (h : RowT w B v m t) : IsL w v m t := by
  obtain ⟨f, n, hr, ht⟩ := h
  exact ⟨f, n, hr.sl, ht⟩
theorem IsL.below {w w' : World} {v : Value} {m B : Nat} {t : Nat → Int} (h : IsL w v m t) (hb : Below B w w') (hB : w.heap.size ≤ B) : IsL w' v m t := by
  obtain ⟨f, n, hr, ht⟩ := h
  exact ⟨f, n, hr.below hb hB, ht⟩
theorem RowT.below {w w' : World} {B m : Nat} {v : Value} {t : Nat → Int} (h : RowT w B v m t) (hb : Below w.heap.size w w') : RowT w' B v m t := by
  obtain ⟨f, n, hr, ht⟩ := h
  exact ⟨f, n, hr.below hb, ht⟩
theorem RowT.mono {w : World} {B B' m : Nat} {v : Value} {t : Nat → Int} (h : RowT w B v m t) (hB : B' ≤ B) : RowT w B' v m t := by
  obtain ⟨f, n, hr, ht⟩ := h
  exact ⟨f, n, hr.mono hB, ht⟩
theorem RowT.like {w : World} {B m : Nat} {v : Value} {t u : Nat → Int} (h : RowT w B v m t) (e : ∀ a, a < m → t a = u a) : RowT w B v m u := by
  obtain ⟨f, n, hr, ht⟩ := h
  exact ⟨f, n, hr, ht.like e⟩
theorem RowT.row {w : World} {B m : Nat} {v : Value} {t : Nat → Int} (hs : isSz (m : Int) = true) (h : RowT w B v m t) : Row w B v (ptl m t) := by
  obtain ⟨f, n, hr, ht⟩ := h
  rw [← ht.same hs]
  exact hr
theorem Row.lit01 (w : World) : Row (w.alloc (.cells #[.int .i64 0, .int .i64 1] 3)) w.heap.size (.slice (some ⟨w.heap.size, 0, none⟩) 2 2) (fl (unt 1) 2) := by
  have := World.ownsRow_lit (base := w.heap.size) (e := 3) (size := 1) w #[.int .i64 0, .int .i64 1] 2 (Nat.le_refl _) (by unfold maxLen; omega) rfl
  exact this
end Go.Proofs.YtimpgbifnijkkabGreat
