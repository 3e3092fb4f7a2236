/- Operations on polynomials, of the program and of the model, told by tables: the product with x, sums, multiples, joined ones, numbers. -/
import Derived.Test.YtapglncgicfjnabGreatND
import Derived.Test.YtapglncgicfjnabGreatKO
namespace Go.Proofs.YtapglncgicfjnabGreat
open Go.RowKit
set_option maxRecDepth 100000 in
set_option maxHeartbeats 8000000 in
/-- impl.poly.timesX. -/
theorem timesXT (m : Nat) (v : Value) (t : Nat → Int) (w : World) (h : isSz (m : Int) = true) (hv : IsP w v m t) :
    Calls Tryz.prog 179 #[polyE (m : Int) v] w fun e w' => ∃ v', e = .returned (polyE (m : Int) v') ∧ IsP w' v' m (fun a => mulF m (a : Int) (t a)) ∧ Below w.heap.size w w' := by
  have hq := isSz_le (m : Int) h
  obtain ⟨i0, hi, iz0, iz1, iz2⟩ := info_parts Tryz.infoE
  obtain ⟨g1, n, cap1, f, rfl, hg1, he1, ht⟩ := hv
  have hn := ht.le
  have HZ := Lib.hid (fun w => zerosE (m : Int) 1 w h (by omega))
  have HRD := Lib.hid (fun v' w' (hs : Se w' v' (m : Int) (shf f) (n + 1)) => reducedE m v' (shf f) (n + 1) w' h hs (shf_el h ht.el) (by omega))
  have HTB := Lib.hid (tb_shf h ht)
  have HAP : Hid (elc (m : Int) (fun _ => 0) 1 ++ elc (m : Int) f n = elc (m : Int) (shf f) (1 + n)) := Lib.hid (by
    rw [elc_app, elc_congr (f := fun _ => 0) (f' := shf f) (n := 1) fun i hi => (if_pos (by omega)).symm, elc_congr (f := f) (f' := fun i => shf f (1 + i)) fun i hi => by
      unfold shf
      rw [if_neg (by omega), Nat.add_sub_cancel_left]])
  have HE1 := Lib.hid (fun wr (hb : Below w.heap.size w wr) => elc_cells (he1.below hb hg1))
  clear h ht he1
  generalize redn m (shf f) (n + 1) = k at *
  generalize redR m (shf f) (n + 1) = r at *
  go_enter Tryz.func179, Tryz.ntmps179
  go_wp2_with fail
  have HT := Lib.hid (two w (pblk (m : Int) (.slice (some ⟨g1, 0, none⟩) n cap1)) pzblk)
  have HKEEP : Hid (∀ w', Below (w.heap.size + 1) (w.alloc (pblk (m : Int) (.slice (some ⟨g1, 0, none⟩) n cap1))) w' → w'.cell? ⟨w.heap.size, 0, none⟩ = some (.int .i64 m) ∧ w'.cell? ⟨w.heap.size, 1, none⟩ = some (.int .i64 (pr m)) ∧ w'.cell? ⟨w.heap.size, 2, none⟩ = some (.int .i64 (pl m)) ∧ w'.cell? ⟨w.heap.size, 3, none⟩ = some (.slice (some ⟨g1, 0, none⟩) n cap1)) := Lib.hid fun w' hb => by
    obtain ⟨x0, x1, x2, x3, _⟩ := cells4 ((hb.block _ (by omega)).trans (heap_alloc_new w _))
    exact ⟨x0, x1, x2, x3⟩
  go_region_held3 (fun w' => w'.cell? ⟨w.heap.size, 0, none⟩ = some (.int .i64 m) ∧ w'.cell? ⟨w.heap.size, 1, none⟩ = some (.int .i64 (pr m)) ∧ w'.cell? ⟨w.heap.size, 2, none⟩ = some (.int .i64 (pl m)) ∧ w'.cell? ⟨w.heap.size, 3, none⟩ = some (.slice (some ⟨g1, 0, none⟩) n cap1))
    (exact HKEEP.out _ (by (try have hb3 := HB3.out); (try have hb7 := HB7.out); (try have hb8 := HB8.out); (repeat' (first | (with_reducible assumption) | (with_reducible exact Below.refl _ _) | (with_reducible refine below_drewN ?_ _) | (with_reducible refine Below.drew ?_) | (with_reducible refine Below.alloc ?_ ?_ _) | (with_reducible refine Below.setCell ?_ ?_ _) | (with_reducible refine Below.trans ?_ (Below.mono (by assumption) ?_)) | (with_reducible exact Nat.le_refl _) | (with_reducible assumption) | omega | (simp; omega) | (simp; done)))))
    (first
    | (go_at_call 154; refine (HZ.out _).mono ?_; rintro e w3 ⟨g3, rfl, hg3, hk3, he3, hb3⟩; have hg3' : w.heap.size + 2 ≤ g3 := (by simp at hg3; omega); have hgl3 := hk3.lt; have HOW3 := Lib.hid (els_owns hk3 he3 hg3' (by omega)); clear hk3 he3; obtain ⟨hc3, hf3⟩ := bcell hb3; (try simp only [World.size_drew] at hc3 hf3); have hz3 := hb3.size; (try simp at hz3); have HB3 := Lib.hid hb3; clear hb3; have l3 : w.heap.size + 2 < w3.heap.size := (by omega))
    | ((refine step_append_ownE rfl (.tmp 7) (.tmp 9) 65 rfl (w.heap.size + 2) 70 i0 (.agg #[.int .i64 0, .int .i64 0, .int .i64 0, .int .i64 0, .int .i64 0, .int .i64 0, .int .i64 0]) 7 56 Tryz.underlying65 hi iz0 iz1 iz2 rfl (by decide) (.slice (some ⟨g3, 0, none⟩) 1 1) 1 (elc (m : Int) (fun _ => 0) 1) (by simp [Act.eval]) HOW3.out ⟨g1, 0, none⟩ n cap1 (elc (m : Int) f n) (by simp [Act.eval]) (elc_len _ _ _) (HE1.out _ (by have hb3 := HB3.out; (repeat' (first | (with_reducible assumption) | (with_reducible exact Below.refl _ _) | (with_reducible refine below_drewN ?_ _) | (with_reducible refine Below.drew ?_) | (with_reducible refine Below.alloc ?_ ?_ _) | (with_reducible refine Below.setCell ?_ ?_ _) | (with_reducible refine Below.trans ?_ (Below.mono (by assumption) ?_)) | (with_reducible exact Nat.le_refl _) | (with_reducible assumption) | omega | (simp; omega) | (simp; done))))) (elc_one _ _ _) (by unfold maxLen; omega) (by omega) (by omega) ?_; intro v7 w7 hown hgrow; rw [HAP.out] at hown; have HSE7 := Lib.hid (owns_se hown (by omega)); have hb7 : Below (w.heap.size + 2) ((w.alloc (pblk (m : Int) (.slice (some ⟨g1, 0, none⟩) n cap1))).alloc pzblk) w7 := Below.grown (by have hb3 := HB3.out; (repeat' (first | (with_reducible assumption) | (with_reducible exact Below.refl _ _) | (with_reducible refine below_drewN ?_ _) | (with_reducible refine Below.drew ?_) | (with_reducible refine Below.alloc ?_ ?_ _) | (with_reducible refine Below.setCell ?_ ?_ _) | (with_reducible refine Below.trans ?_ (Below.mono (by assumption) ?_)) | (with_reducible exact Nat.le_refl _) | (with_reducible assumption) | omega | (simp; omega) | (simp; done)))) hgrow (by omega) (fun g hg => by cases hg; exact hg3'); clear hown hgrow; obtain ⟨hc7, hf7⟩ := bcell hb7; (try simp only [World.size_drew] at hc7 hf7); have hz7 := hb7.size; (try simp at hz7); have HB7 := Lib.hid hb7; clear hb7))
    | (go_at_call 151; refine (HRD.out _ _ (by have hs := HSE7.out; rw [Nat.add_comm] at hs; exact hs)).mono ?_; rintro e w8 ⟨g8, cp8, rfl, hg8, he8, hb8⟩; have HE8 := Lib.hid he8; clear he8; obtain ⟨hc8, hf8⟩ := bcell hb8; (try simp only [World.size_drew] at hc8 hf8); have hz8 := hb8.size; (try simp at hz8); have HB8 := Lib.hid hb8; clear hb8; have l8 : w.heap.size + 2 ≤ w8.heap.size := (by omega); have hr8 : w8.heap[w.heap.size + 1]? = some pzblk := (Below.block (B := w.heap.size + 2) (w := (w.alloc (pblk (m : Int) (.slice (some ⟨g1, 0, none⟩) n cap1))).alloc pzblk) (by have hb7 := HB7.out; have hb8 := HB8.out; (repeat' (first | (with_reducible assumption) | (with_reducible exact Below.refl _ _) | (with_reducible refine below_drewN ?_ _) | (with_reducible refine Below.drew ?_) | (with_reducible refine Below.alloc ?_ ?_ _) | (with_reducible refine Below.setCell ?_ ?_ _) | (with_reducible refine Below.trans ?_ (Below.mono (by assumption) ?_)) | (with_reducible exact Nat.le_refl _) | (with_reducible assumption) | omega | (simp; omega) | (simp; done)))) _ (by omega)).trans HT.out.2; obtain ⟨q0, q1, q2, q3, qf, ql⟩ := cells4 hr8))
  all_goals
    go_wp2_with fail
    have hb7 := HB7.out
    have hb8 := HB8.out
    have hbr : Below (w.heap.size + 2) ((w.alloc (pblk (m : Int) (.slice (some ⟨g1, 0, none⟩) n cap1))).alloc pzblk) w8 := by (repeat' (first | (with_reducible assumption) | (with_reducible exact Below.refl _ _) | (with_reducible refine below_drewN ?_ _) | (with_reducible refine Below.drew ?_) | (with_reducible refine Below.alloc ?_ ?_ _) | (with_reducible refine Below.setCell ?_ ?_ _) | (with_reducible refine Below.trans ?_ (Below.mono (by assumption) ?_)) | (with_reducible exact Nat.le_refl _) | (with_reducible assumption) | omega | (simp; omega) | (simp; done)))
    have hr : w8.heap[w.heap.size + 1]? = some pzblk := (hbr.block _ (by omega)).trans HT.out.2
    obtain ⟨r0, r1, r2, r3, rf, rl0⟩ := cells4 hr
    refine bodyPost_ret (v := polyE (m : Int) (.slice (some ⟨g8, 0, none⟩) k cp8)) (by simp [results, Tryz.results179, go_sem, r0, r1, r2, r3]) rfl ⟨_, rfl, ⟨g8, k, cp8, r, rfl, by simp; omega, ?_, HTB.out⟩, ?_⟩
    · exact HE8.out.over hr (by omega) (fun k hk => by (repeat' (first | (with_reducible rfl) | (with_reducible refine (heap_setCell_other _ _ _ _ ?_).trans ?_) | (with_reducible refine (drew_heap' _ _).trans ?_) | exact hk)))
    · (repeat' (first | (with_reducible assumption) | (with_reducible exact Below.refl _ _) | (with_reducible refine below_drewN ?_ _) | (with_reducible refine Below.drew ?_) | (with_reducible refine Below.alloc ?_ ?_ _) | (with_reducible refine Below.setCell ?_ ?_ _) | (with_reducible refine Below.trans ?_ (Below.mono (by assumption) ?_)) | (with_reducible exact Nat.le_refl _) | (with_reducible assumption) | omega | (simp; omega) | (simp; done)))
/-- impl.poly.plus. -/
theorem plusT (m : Nat) (v1 v2 : Value) (t u : Nat → Int) (w : World) (h : isSz (m : Int) = true) (hv1 : IsP w v1 m t) (hv2 : IsP w v2 m u) :
    Calls Tryz.prog 180 #[polyE (m : Int) v1, polyE (m : Int) v2] w fun e w' => ∃ v', e = .returned (polyE (m : Int) v') ∧ IsP w' v' m (fun a => addF m (t a) (u a)) ∧ Below w.heap.size w w' := by
  obtain ⟨g1, n1, cap1, f1, rfl, hg1, he1, ht1⟩ := hv1
  obtain ⟨g2, n2, cap2, f2, rfl, hg2, he2, ht2⟩ := hv2
  refine (plusPE m n1 n2 _ _ f1 f2 w h ⟨g1, cap1, rfl, hg1, he1⟩ ⟨g2, cap2, rfl, hg2, he2⟩ ht1.el ht2.el ht1.le ht2.le ht1.past ht2.past).mono ?_
  rintro e w' ⟨g, cap, rfl, hg, he, hb⟩
  exact ⟨_, rfl, ⟨g, _, cap, _, rfl, hg, he, tb_plsR h ht1 ht2⟩, hb⟩
/-- impl.poly.scaled. -/
theorem scaledT (m : Nat) (x : Int) (v : Value) (t : Nat → Int) (w : World) (h : isSz (m : Int) = true) (hv : IsP w v m t) (hx : El (m : Int) x) :
    Calls Tryz.prog 181 #[polyE (m : Int) v, elE (m : Int) x] w fun e w' => ∃ v', e = .returned (polyE (m : Int) v') ∧ IsP w' v' m (fun a => mulF m x (t a)) ∧ Below w.heap.size w w' := by
  have hq := isSz_le (m : Int) h
  obtain ⟨g1, n1, cap1, f1, rfl, hg1, he1, ht1⟩ := hv
  refine (scaledPE m n1 x _ f1 w h ⟨g1, cap1, rfl, hg1, he1⟩ ht1.el hx (by have := ht1.le; omega)).mono ?_
  rintro e w' ⟨g, cap, rfl, hg, he, hb⟩
  exact ⟨_, rfl, ⟨g, _, cap, _, rfl, hg, he, tb_scl h ht1 hx⟩, hb⟩
/-- impl.poly.numbers. -/
theorem numbersT (m : Nat) (v : Value) (t : Nat → Int) (w : World) (h : isSz (m : Int) = true) (hv : IsP w v m t) :
    Calls Tryz.prog 73 #[polyE (m : Int) v] w fun e w' => ∃ v', e = .returned v' ∧ Row w' w.heap.size v' (ptl m t) ∧ Below w.heap.size w w' := by
  have hq := isSz_le (m : Int) h
  obtain ⟨g1, n1, cap1, f1, rfl, hg1, he1, ht1⟩ := hv
  have := numbersE (m : Int) _ f1 n1 w h ⟨g1, cap1, rfl, hg1, he1⟩ (fun i _ => ht1.el i) (by have := ht1.le; omega)
  rw [ht1.same h] at this
  exact this
theorem tb_cmp {m n k : Nat} {f g t u : Nat → Int} (h : isSz (m : Int) = true) (p : Tb m f n t) (r : Tb m g k u) : Tb m (cmp m f n g k n).1 (cmp m f n g k n).2 (fun a => t (u a).toNat) := by
  have ok := cmp_ok (n := n) (k := k) h p.el r.el n
  refine ⟨ok.el, ok.le, ok.past, ok.tr, fun a ha => ?_⟩
  have hu := r.tel h a ha
  have hz : u a = ((u a).toNat : Int) := by have := hu.1; omega
  rw [cmp_hor h p.el r.el (El.nat ha), hor_val h (val_el h r.el (El.nat ha) k) p.el n, r.short h a ha, ← p.short h (u a).toNat (by have := hu.2; omega), ← hz]
/-- A list as read, and the table of its reduced polynomial. -/
def IsL (w : World) (v : Value) (m : Nat) (t : Nat → Int) : Prop := ∃ f n, Sl w v (fl f n) ∧ Tb m f n t
/-- A list of the call's own, and the table of its reduced polynomial. -/
def RowT (w : World) (B : Nat) (v : Value) (m : Nat) (t : Nat → Int) : Prop := ∃ f n, Row w B v (fl f n) ∧ Tb m f n t
theorem RowT.isL {w : World} {B m : Nat} {v : Value} {t : Nat → Int} (h : RowT w B v m t) : IsL w v m t := by
  obtain ⟨f, n, hr, ht⟩ := h
  exact ⟨f, n, hr.sl, ht⟩
theorem IsL.below {w w' : World} {v : Value} {m B : Nat} {t : Nat → Int} (h : IsL w v m t) (hb : Below B w w') (hB : w.heap.size ≤ B) : IsL w' v m t := by
  obtain ⟨f, n, hr, ht⟩ := h
  exact ⟨f, n, hr.below hb hB, ht⟩
theorem RowT.below {w w' : World} {B m : Nat} {v : Value} {t : Nat → Int} (h : RowT w B v m t) (hb : Below w.heap.size w w') : RowT w' B v m t := by
  obtain ⟨f, n, hr, ht⟩ := h
  exact ⟨f, n, hr.below hb, ht⟩
theorem RowT.mono {w : World} {B B' m : Nat} {v : Value} {t : Nat → Int} (h : RowT w B v m t) (hB : B' ≤ B) : RowT w B' v m t := by
  obtain ⟨f, n, hr, ht⟩ := h
  exact ⟨f, n, hr.mono hB, ht⟩
theorem RowT.like {w : World} {B m : Nat} {v : Value} {t u : Nat → Int} (h : RowT w B v m t) (e : ∀ a, a < m → t a = u a) : RowT w B v m u := by
  obtain ⟨f, n, hr, ht⟩ := h
  exact ⟨f, n, hr, ht.like e⟩
theorem RowT.row {w : World} {B m : Nat} {v : Value} {t : Nat → Int} (hs : isSz (m : Int) = true) (h : RowT w B v m t) : Row w B v (ptl m t) := by
  obtain ⟨f, n, hr, ht⟩ := h
  rw [← ht.same hs]
  exact hr
/-- spec.plTimes. -/
theorem plTimesT (m : Nat) (v1 v2 : Value) (t u : Nat → Int) (w : World) (h : isSz (m : Int) = true) (hv1 : IsL w v1 m t) (hv2 : IsL w v2 m u) :
    Calls Tryz.prog 114 #[.int .i64 m, v1, v2] w fun e w' => ∃ v', e = .returned v' ∧ RowT w' w.heap.size v' m (fun a => mulF m (t a) (u a)) ∧ Below w.heap.size w w' := by
  have hq := isSz_le (m : Int) h
  obtain ⟨f1, n1, hs1, ht1⟩ := hv1
  obtain ⟨f2, n2, hs2, ht2⟩ := hv2
  refine (plTimes_any m n1 n2 v1 v2 f1 f2 w h hs1 hs2 ht1.el ht2.el (by have := ht1.le; omega) (by have := ht2.le; omega)).mono ?_
  rintro e w' ⟨v', rfl, hr, hb⟩
  exact ⟨v', rfl, ⟨_, _, hr, tb_mul h ht1 ht2⟩, hb⟩
/-- spec.plPlus. -/
theorem plPlusT (m : Nat) (v1 v2 : Value) (t u : Nat → Int) (w : World) (h : isSz (m : Int) = true) (hv1 : IsL w v1 m t) (hv2 : IsL w v2 m u) :
    Calls Tryz.prog 183 #[.int .i64 m, v1, v2] w fun e w' => ∃ v', e = .returned v' ∧ RowT w' w.heap.size v' m (fun a => addF m (t a) (u a)) ∧ Below w.heap.size w w' := by
  have hq := isSz_le (m : Int) h
  obtain ⟨f1, n1, hs1, ht1⟩ := hv1
  obtain ⟨f2, n2, hs2, ht2⟩ := hv2
  refine (plPlus_any m n1 n2 v1 v2 f1 f2 w h hs1 hs2 ht1.el ht2.el ht1.past ht2.past (by have := ht1.le; omega) (by have := ht2.le; omega)).mono ?_
  rintro e w' ⟨v', rfl, hr, hb⟩
  exact ⟨v', rfl, ⟨_, _, hr, tb_pls h ht1 ht2⟩, hb⟩
/-- spec.plReduce of 0, 1: x. -/
theorem plX_T (m : Nat) (v : Value) (w : World) (h : isSz (m : Int) = true) (hv : Sl w v (fl (unt 1) 2)) :
    Calls Tryz.prog 182 #[.int .i64 m, v] w fun e w' => ∃ v', e = .returned v' ∧ RowT w' w.heap.size v' m (fun a => (a : Int)) ∧ Below w.heap.size w w' := by
  refine (plReduce_any m v (unt 1) 2 w h hv (unt_el h 1) (by omega)).mono ?_
  rintro e w' ⟨v', rfl, hr, hb⟩
  exact ⟨v', rfl, ⟨_, _, hr, tb_x h⟩, hb⟩
/-- spec.plShort of one element. -/
theorem plCon_T (m g cap B : Nat) (x : Int) (w : World) (h : isSz (m : Int) = true) (hx : El (m : Int) x) (hr : Row w B (.slice (some ⟨g, 0, none⟩) 1 cap) (fl (one0 x) 1)) (hg : g < w.heap.size) :
    Calls Tryz.prog 164 #[.slice (some ⟨g, 0, none⟩) 1 cap] w fun e w' => ∃ v', e = .returned v' ∧ RowT w' w.heap.size v' m (fun _ => x) ∧ Below w.heap.size w w' := by
  refine (plShort_any g cap 1 B (one0 x) w hr hg (by omega)).mono ?_
  rintro e w' ⟨v', rfl, hr', hb⟩
  exact ⟨v', rfl, ⟨_, _, hr', tb_con h hx⟩, hb⟩
theorem Row.lit01 (w : World) : Row (w.alloc (.cells #[.int .i64 0, .int .i64 1] 3)) w.heap.size (.slice (some ⟨w.heap.size, 0, none⟩) 2 2) (fl (unt 1) 2) := by
  have := World.ownsRow_lit (base := w.heap.size) (e := 3) (size := 1) w #[.int .i64 0, .int .i64 1] 2 (Nat.le_refl _) (by unfold maxLen; omega) rfl
  exact this
end Go.Proofs.YtapglncgicfjnabGreat
