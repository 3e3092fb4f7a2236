/- Dickson's polynomials of the program: impl.element.dickson, by a contract. -/
import Derived.Test.YtapglncgicfjnabGreatNE
import Derived.Test.YtapglncgicfjnabGreatNG
namespace Go.Proofs.YtapglncgicfjnabGreat
open Go.RowKit
theorem put4_heapQ {w : World} {b : Nat} {x0 x1 x2 x3 : Value} (q : Int) (v : Value) (h : w.heap[b]? = some (.cells #[x0, x1, x2, x3] 73 (0, 0))) : (put4 w b q v).heap[b]? = some (pblk q v) := by
  have h0 := heap_setCell_same w b 0 _ _ (.int .i64 q) h
  have h1 := heap_setCell_same _ b 1 _ _ (.int .i64 (pr q)) h0
  have h2 := heap_setCell_same _ b 2 _ _ (.int .i64 (pl q)) h1
  have h3 := heap_setCell_same _ b 3 _ _ v h2
  simpa using h3
theorem IsP.over {w w' : World} {P : Nat} {v u : Value} {m : Nat} {t : Nat → Int} (h : IsP w v m t) (hP : w.heap[P]? = some (pblk (m : Int) u)) (hu : ∃ a n c, u = .slice a n c) (hw : ∀ k, k ≠ P → w'.heap[k]? = w.heap[k]?) (hs : w'.heap.size = w.heap.size) : IsP w' v m t := by
  obtain ⟨g, k, cap, f, rfl, hg, he, ht⟩ := h
  refine ⟨g, k, cap, f, rfl, by omega, ?_, ht⟩
  by_cases h0 : k = 0
  · subst h0
    exact fun j hj => by omega
  · refine he.same (hw g fun e => ?_)
    subst e
    obtain ⟨a, n, c, rfl⟩ := hu
    have h1 := (he 0 (by omega)).2.2.2.1
    rw [(cells4 hP).2.2.2.1] at h1
    simp at h1
/-- The memory of dickson between two rounds. -/
structure DK (w0 wr : World) (m : Nat) (s : Int) (B6 P7 P8 : Nat) (v7 v8 : Value) (t7 t8 : Nat → Int) : Prop where
  hr : wr.heap[w0.heap.size + 1]? = some pzblk
  h6 : wr.heap[B6]? = some (eblk (m : Int) s)
  h7 : wr.heap[P7]? = some (pblk (m : Int) v7)
  h8 : wr.heap[P8]? = some (pblk (m : Int) v8)
  p7 : IsP wr v7 m t7
  p8 : IsP wr v8 m t8
  bel : Below w0.heap.size w0 wr
  l6 : w0.heap.size + 1 < B6
  l7 : w0.heap.size + 1 < P7
  l8 : w0.heap.size + 1 < P8
  n67 : B6 ≠ P7
  n68 : B6 ≠ P8
  n78 : P7 ≠ P8
theorem DK.below {w0 wr w' : World} {m : Nat} {s : Int} {B6 P7 P8 B : Nat} {v7 v8 : Value} {t7 t8 : Nat → Int} (h : DK w0 wr m s B6 P7 P8 v7 v8 t7 t8) (hb : Below B wr w') (hB : wr.heap.size ≤ B) : DK w0 w' m s B6 P7 P8 v7 v8 t7 t8 := by
  have a6 := (Array.getElem?_eq_some_iff.1 h.h6).1
  have a7 := (Array.getElem?_eq_some_iff.1 h.h7).1
  have a8 := (Array.getElem?_eq_some_iff.1 h.h8).1
  have ar := (Array.getElem?_eq_some_iff.1 h.hr).1
  have hz := h.bel.size
  exact ⟨(hb.block _ (by omega)).trans h.hr, (hb.block _ (by omega)).trans h.h6, (hb.block _ (by omega)).trans h.h7, (hb.block _ (by omega)).trans h.h8, h.p7.below hb hB, h.p8.below hb hB, h.bel.trans (hb.mono (by omega)), h.l6, h.l7, h.l8, h.n67, h.n68, h.n78⟩
theorem put4_size (w : World) (b : Nat) (q : Int) (v : Value) : (put4 w b q v).heap.size = w.heap.size := by simp [put4]
/-- The two stores of a round. -/
theorem DK.next {w0 wr : World} {m : Nat} {s : Int} {B6 P7 P8 : Nat} {v7 v8 v' : Value} {t7 t8 t' : Nat → Int} (h : DK w0 wr m s B6 P7 P8 v7 v8 t7 t8) (h' : IsP wr v' m t') : DK w0 (put4 (put4 wr P7 (m : Int) v8) P8 (m : Int) v') m s B6 P7 P8 v8 v' t8 t' := by
  have s7 : ∃ a n c, v7 = .slice a n c := h.p7.slice
  have s8 : ∃ a n c, v8 = .slice a n c := h.p8.slice
  have l6 := h.l6
  have l7 := h.l7
  have l8 := h.l8
  have e7 : (put4 wr P7 (m : Int) v8).heap[P7]? = some (pblk (m : Int) v8) := put4_heapQ _ _ h.h7
  have e8 : (put4 wr P7 (m : Int) v8).heap[P8]? = some (pblk (m : Int) v8) := (put4_other _ _ _ _ _ (Ne.symm h.n78)).trans h.h8
  refine ⟨?_, ?_, ?_, put4_heapQ _ _ e8, ?_, ?_, ?_, h.l6, h.l7, h.l8, h.n67, h.n68, h.n78⟩
  · exact (put4_other _ _ _ _ _ (by omega)).trans ((put4_other _ _ _ _ _ (by omega)).trans h.hr)
  · exact (put4_other _ _ _ _ _ h.n68).trans ((put4_other _ _ _ _ _ h.n67).trans h.h6)
  · exact (put4_other _ _ _ _ _ h.n78).trans e7
  · exact (h.p8.over h.h7 s7 (fun k hk => put4_other _ _ _ _ _ hk) (put4_size _ _ _ _)).over e8 s8 (fun k hk => put4_other _ _ _ _ _ hk) (put4_size _ _ _ _)
  · exact (h'.over h.h7 s7 (fun k hk => put4_other _ _ _ _ _ hk) (put4_size _ _ _ _)).over e8 s8 (fun k hk => put4_other _ _ _ _ _ hk) (put4_size _ _ _ _)
  · exact put4_below (put4_below h.bel _ (by omega) _ _) _ (by omega) _ _
/-- What each operation of the first assignment leaves. -/
def DF (m : Nat) (c : Int) (t0 t1 : Nat → Int) (lo : Nat) : Nat → Value → World → Prop
  | 2, v, _ => v = elE (m : Int) 1
  | 4, v, _ => v = elE (m : Int) 1
  | 5, v, _ => v = elE (m : Int) c
  | 6, v, w => ∃ B, v = .slice (some ⟨B, 0, none⟩) 1 1 ∧ w.heap[B]? = some (eblk (m : Int) c)
  | 7, v, w => ∃ u, v = polyE (m : Int) u ∧ IsP w u m t0
  | 9, v, w => ∃ u, v = polyE (m : Int) u ∧ IsP w u m t1
  | 10, v, w => ∃ P, v = .pointer (some ⟨P, 0, none⟩) ∧ lo ≤ P ∧ w.heap[P]? = some pzblk
  | 11, v, w => ∃ P, v = .pointer (some ⟨P, 0, none⟩) ∧ lo ≤ P ∧ w.heap[P]? = some pzblk
  | _, v, _ => v = fdE (m : Int)
theorem keep_blk {w w' : World} {B : Nat} {o : Obj} (hb : Below w.heap.size w w') (h : w.heap[B]? = some o) : w'.heap[B]? = some o := (hb.block B (Array.getElem?_eq_some_iff.1 h).1).trans h
theorem DF_mono {m : Nat} {c : Int} {t0 t1 : Nat → Int} {lo : Nat} {w w' : World} (hb : Below w.heap.size w w') (j : Nat) (v : Value) (h : DF m c t0 t1 lo j v w) : DF m c t0 t1 lo j v w' := by
  unfold DF at h ⊢
  split at h
  · exact h
  · exact h
  · exact h
  · obtain ⟨B, e, hB⟩ := h
    exact ⟨B, e, keep_blk hb hB⟩
  · obtain ⟨u, e, hu⟩ := h
    exact ⟨u, e, hu.below hb (Nat.le_refl _)⟩
  · obtain ⟨u, e, hu⟩ := h
    exact ⟨u, e, hu.below hb (Nat.le_refl _)⟩
  · obtain ⟨P, e, hl, hP⟩ := h
    exact ⟨P, e, hl, keep_blk hb hP⟩
  · obtain ⟨P, e, hl, hP⟩ := h
    exact ⟨P, e, hl, keep_blk hb hP⟩
  · exact h
/-- The slots of its operations. -/
def dsl : Nat → Nat
  | 0 => 13 | 1 => 14 | 2 => 15 | 3 => 16 | 4 => 17 | 5 => 18 | 6 => 19 | 7 => 20 | 8 => 21 | 9 => 22 | 10 => 7 | _ => 8
theorem dsl_ne (i : Nat) (hi : i < 12) : ∀ j, j < 12 → j ≠ i → dsl j ≠ dsl i := by
  have : (List.range 12).all (fun i => (List.range 12).all fun j => decide (j ≠ i → dsl j ≠ dsl i)) = true := by decide
  intro j hj
  exact of_decide_eq_true (List.all_eq_true.1 (List.all_eq_true.1 this i (List.mem_range.2 hi)) j (List.mem_range.2 hj))
/-- Ahead of the two stores. -/
structure D1 (m : Nat) (c : Int) (t0 t1 : Nat → Int) (lo : Nat) (L : Array Bool) (x : Nat → Value) (w : World) : Prop where
  n12 : L.getD 12 true = false
  n13 : L.getD 13 true = false
  ph : Ph 12 dsl (DF m c t0 t1 lo) L x w
  ne : L.getD 10 false = true → L.getD 11 false = true → x 7 ≠ x 8
  e89 : L.getD 9 false = true → L.getD 8 false = true
theorem D1.next {m i : Nat} {c : Int} {t0 t1 : Nat → Int} {lo : Nat} {L : Array Bool} {x x' : Nat → Value} {w w' : World} (h : D1 m c t0 t1 lo L x w) (hi : i < 10) (hb : Below w.heap.size w w') (hx : ∀ k, k ≠ dsl i → x' k = x k) (hf : DF m c t0 t1 lo i (x' (dsl i)) w') (h9 : i = 9 → L.getD 8 false = true := by intro h; cases h) : D1 m c t0 t1 lo (L.setIfInBounds i true) x' w' := by
  refine ⟨by rw [getD_set_ne true (by omega)]; exact h.n12, by rw [getD_set_ne true (by omega)]; exact h.n13, h.ph.step (DF_mono hb) (dsl_ne i (by omega)) hx hf, ?_, fun h9' => ?_⟩
  rotate_left
  · refine getD_set_true ?_
    by_cases e : i = 9
    · exact h9 e
    · rw [getD_set_ne false e] at h9'
      exact h.e89 h9'
  rw [getD_set_ne false (by omega), getD_set_ne false (by omega)]
  have h1 : 7 ≠ dsl i := dsl_ne i (by omega) 10 (by omega) (by omega)
  have h2 : 8 ≠ dsl i := dsl_ne i (by omega) 11 (by omega) (by omega)
  rw [hx 7 h1, hx 8 h2]
  exact h.ne
theorem D1.al10 {m : Nat} {c : Int} {t0 t1 : Nat → Int} {lo : Nat} {L : Array Bool} {x x' : Nat → Value} {w : World} (h : D1 m c t0 t1 lo L x w) (hlo : lo ≤ w.heap.size) (hx : ∀ k, k ≠ 7 → x' k = x k) (he : x' 7 = .pointer (some ⟨w.heap.size, 0, none⟩)) : D1 m c t0 t1 lo (L.setIfInBounds 10 true) x' (w.alloc pzblk) := by
  refine ⟨by rw [getD_set_ne true (by omega)]; exact h.n12, by rw [getD_set_ne true (by omega)]; exact h.n13, h.ph.step (DF_mono ((Below.refl _ _).alloc (Nat.le_refl _) _)) (dsl_ne 10 (by omega)) hx ⟨_, he, hlo, heap_alloc_new _ _⟩, ?_, fun h9 => by rw [getD_set_ne false (by omega)] at h9 ⊢; exact h.e89 h9⟩
  rw [getD_set_ne (j := 11) false (by omega)]
  intro _ h11
  obtain ⟨P, e, _, hP⟩ := h.ph 11 (by omega) h11
  rw [he, hx 8 (by omega), show x 8 = _ from e]
  intro hc
  simp only [Value.pointer.injEq, Option.some.injEq, Addr.mk.injEq] at hc
  have := (Array.getElem?_eq_some_iff.1 hP).1
  omega
theorem D1.al11 {m : Nat} {c : Int} {t0 t1 : Nat → Int} {lo : Nat} {L : Array Bool} {x x' : Nat → Value} {w : World} (h : D1 m c t0 t1 lo L x w) (hlo : lo ≤ w.heap.size) (hx : ∀ k, k ≠ 8 → x' k = x k) (he : x' 8 = .pointer (some ⟨w.heap.size, 0, none⟩)) : D1 m c t0 t1 lo (L.setIfInBounds 11 true) x' (w.alloc pzblk) := by
  refine ⟨by rw [getD_set_ne true (by omega)]; exact h.n12, by rw [getD_set_ne true (by omega)]; exact h.n13, h.ph.step (DF_mono ((Below.refl _ _).alloc (Nat.le_refl _) _)) (dsl_ne 11 (by omega)) hx ⟨_, he, hlo, heap_alloc_new _ _⟩, ?_, fun h9 => by rw [getD_set_ne false (by omega)] at h9 ⊢; exact h.e89 h9⟩
  rw [getD_set_ne (j := 10) false (by omega)]
  intro h10 _
  obtain ⟨P, e, _, hP⟩ := h.ph 10 (by omega) h10
  rw [he, hx 7 (by omega), show x 7 = _ from e]
  intro hc
  simp only [Value.pointer.injEq, Option.some.injEq, Addr.mk.injEq] at hc
  have := (Array.getElem?_eq_some_iff.1 hP).1
  omega
/-- Between the two stores (z: not yet the second), and behind them. -/
def D2 (m : Nat) (t0 t1 : Nat → Int) (lo : Nat) (x : Nat → Value) (w : World) (z : Bool) : Prop := ∃ P7 P8 v7 v8, x 7 = .pointer (some ⟨P7, 0, none⟩) ∧ x 8 = .pointer (some ⟨P8, 0, none⟩) ∧ x 22 = polyE (m : Int) v8 ∧ lo ≤ P7 ∧ lo ≤ P8 ∧ P7 ≠ P8 ∧
  w.heap[P7]? = some (pblk (m : Int) v7) ∧ w.heap[P8]? = some (if z then pzblk else pblk (m : Int) v8) ∧ IsP w v7 m t0 ∧ IsP w v8 m t1
/-- The state of the first assignment. -/
def DI (A : (Nat → Value) → Act) (W0 : World) (m : Nat) (c : Int) (t0 t1 : Nat → Int) (L : Array Bool) (a : Act) (w : World) : Prop := ∃ x, a = A x ∧ Below W0.heap.size W0 w ∧
  (D1 m c t0 t1 W0.heap.size L x w ∨ ((∀ j, j < 13 → L.getD j false = true) ∧ L.getD 13 true = false ∧ D2 m t0 t1 W0.heap.size x w true) ∨ ((∀ j, j < 14 → L.getD j false = true) ∧ D2 m t0 t1 W0.heap.size x w false))
theorem DI.early {A : (Nat → Value) → Act} {W0 w : World} {m i : Nat} {c : Int} {t0 t1 : Nat → Int} {L : Array Bool} {a : Act} (h : DI A W0 m c t0 t1 L a w) (hi : i < 13) (hL : L.getD i true = false) : ∃ x, a = A x ∧ Below W0.heap.size W0 w ∧ D1 m c t0 t1 W0.heap.size L x w := by
  obtain ⟨x, rfl, hb, h1 | ⟨h2, _⟩ | ⟨h2, _⟩⟩ := h
  · exact ⟨x, rfl, hb, h1⟩
  · exact (not_done hL (h2 i hi)).elim
  · exact (not_done hL (h2 i (by omega))).elim
theorem DI.open {A : (Nat → Value) → Act} {W0 w : World} {m : Nat} {c : Int} {t0 t1 : Nat → Int} {L : Array Bool} {a : Act} (h : DI A W0 m c t0 t1 L a w) : ∃ x, a = A x ∧ Below W0.heap.size W0 w ∧ (D1 m c t0 t1 W0.heap.size L x w ∨ ((∀ j, j < 13 → L.getD j false = true) ∧ L.getD 13 true = false ∧ D2 m t0 t1 W0.heap.size x w true) ∨ ((∀ j, j < 14 → L.getD j false = true) ∧ D2 m t0 t1 W0.heap.size x w false)) := h
theorem DI.mk1 {A : (Nat → Value) → Act} {W0 w : World} {m : Nat} {c : Int} {t0 t1 : Nat → Int} {L : Array Bool} {a : Act} (x : Nat → Value) (e : a = A x) (hb : Below W0.heap.size W0 w) (h : D1 m c t0 t1 W0.heap.size L x w) : DI A W0 m c t0 t1 L a w := ⟨x, e, hb, .inl h⟩
/-- What each operation of a round's assignment leaves. -/
def EF (m : Nat) (s : Int) (v7 v8 : Value) (t7 t8 t9 : Nat → Int) : Nat → Value → World → Prop
  | 2, v, w => ∃ u, v = polyE (m : Int) u ∧ IsP w u m (fun a => mulF m (a : Int) (t8 a))
  | 3, v, _ => v = polyE (m : Int) v7
  | 4, v, _ => v = elE (m : Int) s
  | 5, v, w => ∃ u, v = polyE (m : Int) u ∧ IsP w u m (fun a => mulF m s (t7 a))
  | 6, v, w => ∃ u, v = polyE (m : Int) u ∧ IsP w u m t9
  | _, v, _ => v = polyE (m : Int) v8
theorem EF_mono {m : Nat} {s : Int} {v7 v8 : Value} {t7 t8 t9 : Nat → Int} {w w' : World} (hb : Below w.heap.size w w') (j : Nat) (v : Value) (h : EF m s v7 v8 t7 t8 t9 j v w) : EF m s v7 v8 t7 t8 t9 j v w' := by
  unfold EF at h ⊢
  split at h
  · obtain ⟨u, e, hu⟩ := h
    exact ⟨u, e, hu.below hb (Nat.le_refl _)⟩
  · exact h
  · exact h
  · obtain ⟨u, e, hu⟩ := h
    exact ⟨u, e, hu.below hb (Nat.le_refl _)⟩
  · obtain ⟨u, e, hu⟩ := h
    exact ⟨u, e, hu.below hb (Nat.le_refl _)⟩
  · exact h
def esl : Nat → Nat
  | 0 => 26 | 1 => 27 | 2 => 28 | 3 => 29 | 4 => 30 | 5 => 31 | _ => 32
theorem esl_ne (i : Nat) (hi : i < 7) : ∀ j, j < 7 → j ≠ i → esl j ≠ esl i := by
  have : (List.range 7).all (fun i => (List.range 7).all fun j => decide (j ≠ i → esl j ≠ esl i)) = true := by decide
  intro j hj
  exact of_decide_eq_true (List.all_eq_true.1 (List.all_eq_true.1 this i (List.mem_range.2 hi)) j (List.mem_range.2 hj))
/-- The state of a round's assignment. -/
def EI (A : (Nat → Value) → Act) (W0 : World) (m : Nat) (s : Int) (v7 v8 : Value) (P7 P8 : Nat) (t7 t8 t9 : Nat → Int) (L : Array Bool) (a : Act) (w : World) : Prop := ∃ x, a = A x ∧
  ((L.getD 7 true = false ∧ L.getD 8 true = false ∧ Below W0.heap.size W0 w ∧ Ph 7 esl (EF m s v7 v8 t7 t8 t9) L x w) ∨
   (L.getD 7 false = true ∧ L.getD 8 true = false ∧ ∃ u9 wa, x 32 = polyE (m : Int) u9 ∧ Below W0.heap.size W0 wa ∧ IsP wa u9 m t9 ∧ w = put4 wa P7 (m : Int) v8) ∨
   (L.getD 8 false = true ∧ ∃ u9 wa, Below W0.heap.size W0 wa ∧ IsP wa u9 m t9 ∧ w = put4 (put4 wa P7 (m : Int) v8) P8 (m : Int) u9))
theorem EI.open {A : (Nat → Value) → Act} {W0 w : World} {m : Nat} {s : Int} {v7 v8 : Value} {P7 P8 : Nat} {t7 t8 t9 : Nat → Int} {L : Array Bool} {a : Act} (h : EI A W0 m s v7 v8 P7 P8 t7 t8 t9 L a w) : ∃ x, a = A x ∧ ((L.getD 7 true = false ∧ L.getD 8 true = false ∧ Below W0.heap.size W0 w ∧ Ph 7 esl (EF m s v7 v8 t7 t8 t9) L x w) ∨
   (L.getD 7 false = true ∧ L.getD 8 true = false ∧ ∃ u9 wa, x 32 = polyE (m : Int) u9 ∧ Below W0.heap.size W0 wa ∧ IsP wa u9 m t9 ∧ w = put4 wa P7 (m : Int) v8) ∨
   (L.getD 8 false = true ∧ ∃ u9 wa, Below W0.heap.size W0 wa ∧ IsP wa u9 m t9 ∧ w = put4 (put4 wa P7 (m : Int) v8) P8 (m : Int) u9)) := h
theorem EI.mk1 {A : (Nat → Value) → Act} {W0 w : World} {m i : Nat} {s : Int} {v7 v8 : Value} {P7 P8 : Nat} {t7 t8 t9 : Nat → Int} {L : Array Bool} {a : Act} (x : Nat → Value) (e : a = A x) (hi : i < 7) (n7 : L.getD 7 true = false) (n8 : L.getD 8 true = false) (hb : Below W0.heap.size W0 w) (h : Ph 7 esl (EF m s v7 v8 t7 t8 t9) (L.setIfInBounds i true) x w) : EI A W0 m s v7 v8 P7 P8 t7 t8 t9 (L.setIfInBounds i true) a w :=
  ⟨x, e, .inl ⟨by rw [getD_set_ne true (by omega)]; exact n7, by rw [getD_set_ne true (by omega)]; exact n8, hb, h⟩⟩
/-- Over a block of a polynomial that may be 0. -/
theorem IsP.over' {w w' : World} {P : Nat} {v : Value} {m : Nat} {t : Nat → Int} (h : IsP w v m t) (hP : w.heap[P]? = some pzblk) (hw : ∀ k, k ≠ P → w'.heap[k]? = w.heap[k]?) (hs : w'.heap.size = w.heap.size) : IsP w' v m t := by
  obtain ⟨g, k, cap, f, rfl, hg, he, ht⟩ := h
  refine ⟨g, k, cap, f, rfl, by omega, ?_, ht⟩
  by_cases h0 : k = 0
  · subst h0
    exact fun j hj => by omega
  · refine he.same (hw g fun e => ?_)
    subst e
    have h1 := (he 0 (by omega)).2.2.2.1
    rw [(cells4 hP).2.2.2.1] at h1
    simp at h1
theorem region_cut' {P : Program} {c : Code} {Q : Exit → Act → World → Prop} {a : Act} {w : World} (R : Act → World → Prop) (h0 : ∀ K : Act → World → Prop, (∀ a' w', R a' w' → K a' w') → c.wp P (Exit.then K Q) a w) (h : ∀ a' w', R a' w' → Q .normal a' w') : c.wp P Q a w :=
  Code.wp_mono (fun e a' w' hr => by
    cases e with
    | normal => exact h a' w' hr
    | _ => exact hr) (h0 (fun a' w' => R a' w') fun _ _ h => h)
theorem all13 {L : Array Bool} (h : ∀ j, j < 13 → L.getD j false = true) (h13 : L.getD 13 true = false) : ∀ j, j < 14 → (L.setIfInBounds 13 true).getD j false = true := fun j hj => by
  by_cases e : j = 13
  · subst e
    simp only [Array.getD] at h13 ⊢
    split at h13
    · rename_i hl
      rw [dif_pos (by simpa using hl)]
      simp
    · cases h13
  · rw [getD_set_ne false (Ne.symm e)]
    exact h j (by omega)
theorem all12 {L : Array Bool} {E : Array Edge} (hd : ∀ e ∈ E, Region.binds .any e = true → L.getD e.on false = true) (h12 : L.getD 12 true = false) (h8 : L.getD 8 false = true) (hE : ∀ j, j < 12 → j ≠ 8 → ∃ e ∈ E, e.on = j ∧ Region.binds .any e = true) : ∀ j, j < 13 → (L.setIfInBounds 12 true).getD j false = true := fun j hj => by
  by_cases e : j = 12
  · subst e
    simp only [Array.getD] at h12 ⊢
    split at h12
    · rename_i hl
      rw [dif_pos (by simpa using hl)]
      simp
    · cases h12
  · rw [getD_set_ne false (Ne.symm e)]
    by_cases e8 : j = 8
    · subst e8; exact h8
    · obtain ⟨ed, he, rfl, hb⟩ := hE j (by omega) e8
      exact hd ed he hb
set_option maxRecDepth 100000 in
set_option maxHeartbeats 16000000 in
/-- impl.element.dickson. -/
theorem dicksonT (m n : Nat) (a : Int) (w : World) (h : isSz (m : Int) = true) (ha : El (m : Int) a) (hn : n ≤ 400) :
    Calls Tryz.prog 110 #[elE (m : Int) a, .int .i64 n] w fun e w' => ∃ v, e = .returned (polyE (m : Int) v) ∧ IsP w' v m (dkt m a n) ∧ Below w.heap.size w w' := by
  have hq := isSz_le (m : Int) h
  have hs : El (m : Int) (subF m 0 a) := El.neg h ha
  have hc : El (m : Int) (addF m 1 1) := (El.one h).add h (El.one h)
  have HN := Lib.hid (fun w => negE (m : Int) a w h ha.1 ha.2)
  have HO := Lib.hid (fun w => oneE (m : Int) w h)
  have HP := Lib.hid (fun w => plusE (m : Int) 1 1 w h (El.one h).1 (El.one h).2 (El.one h).1 (El.one h).2)
  have HRD : Hid (∀ B w', w'.heap[B]? = some (eblk (m : Int) (addF m 1 1)) → Calls Tryz.prog 151 #[fdE (m : Int), .slice (some ⟨B, 0, none⟩) 1 1] w' fun e w'' => ∃ v, e = .returned (polyE (m : Int) v) ∧ IsP w'' v m (dkt m a 0) ∧ Below w'.heap.size w' w'') := Lib.hid fun B w' hB => by
    obtain ⟨s0, s1, s2, s3, s4, s5, s6, _, hl⟩ := seven hB
    refine (reducedE m _ (one0 (addF m 1 1)) 1 w' h ⟨B, 1, rfl, hl, fun j hj => ?_⟩ (one0_el h hc) (by omega)).mono ?_
    · obtain rfl : j = 0 := by omega
      exact ⟨s0, s1, s2, s3, s4, s5, s6⟩
    · rintro e w'' ⟨g, cap, rfl, hg, he, hb⟩
      exact ⟨_, rfl, ⟨g, _, cap, _, rfl, hg, he, tb_conR h hc⟩, hb⟩
  have HX : Hid (∀ w', Calls Tryz.prog 97 #[fdE (m : Int), .int .i64 1] w' fun e w'' => ∃ v, e = .returned (polyE (m : Int) v) ∧ IsP w'' v m (dkt m a 1) ∧ Below w'.heap.size w' w'') := Lib.hid fun w' => (powerOfXE m 1 w' h (by omega)).mono (by
    rintro e w'' ⟨v, rfl, hv, hb⟩
    exact ⟨v, rfl, hv.like fun x hx => pw_one h (El.nat hx), hb⟩)
  have HTX := Lib.hid (fun v t w hv => timesXT m v t w h hv)
  have HSC := Lib.hid (fun v t w hv => scaledT m (subF m 0 a) v t w h hv hs)
  have HPL := Lib.hid (fun v1 v2 t u w h1 h2 => plusT m v1 v2 t u w h h1 h2)
  have HST : Hid (∀ k x : Nat, addF m (mulF m (x : Int) (dkt m a (k + 1) x)) (mulF m (subF m 0 a) (dkt m a k x)) = dkt m a (k + 2) x) := Lib.hid fun _ _ => rfl
  clear h ha hs hc
  generalize addF m 1 1 = c at *
  generalize dkt m a = T at *
  go_enter Tryz.func110, Tryz.ntmps110
  go_wp2_with fail
  refine (HN.out _).mono ?_
  rintro e w1 ⟨rfl, hb1⟩
  generalize subF m 0 a = s at *
  have ht := three w (eblk (m : Int) a) pzblk (ffblk (m : Int))
  have hz1 := hb1.size
  simp at hz1
  have hr1 : (w1.alloc (eblk (m : Int) s)).heap[w.heap.size + 1]? = some pzblk := (Below.heap_alloc _ _ _ (by omega)).trans ((hb1.block _ (by simp)).trans ht.2.1)
  have hf1 : (w1.alloc (eblk (m : Int) s)).heap[w.heap.size + 1 + 1]? = some (ffblk (m : Int)) := (Below.heap_alloc _ _ _ (by omega)).trans ((hb1.block _ (by simp)).trans ht.2.2)
  have hW1 : Below w.heap.size w (w1.alloc (eblk (m : Int) s)) := by (repeat' (first | (with_reducible assumption) | (with_reducible exact Below.refl _ _) | (with_reducible refine below_drewN ?_ _) | (with_reducible refine Below.drew ?_) | (with_reducible refine Below.alloc ?_ ?_ _) | (with_reducible refine Below.setCell ?_ ?_ _) | (with_reducible refine Below.trans ?_ (Below.mono (by assumption) ?_)) | (with_reducible exact Nat.le_refl _) | (with_reducible assumption) | omega | (simp; omega) | (simp; done)))
  have h61 : (w1.alloc (eblk (m : Int) s)).heap[w1.heap.size]? = some (eblk (m : Int) s) := heap_alloc_new _ _
  have hz2 : (w1.alloc (eblk (m : Int) s)).heap.size = w1.heap.size + 1 := by simp
  clear ht hb1
  go_wp2_with fail
  have HR1 := Lib.hid hr1
  have HF1 := Lib.hid hf1
  have HW1 := Lib.hid hW1
  have H61 := Lib.hid h61
  clear hr1 hf1 hW1 h61
  revert HR1 HF1 HW1 H61 hz2
  generalize hW : w1.alloc (eblk (m : Int) s) = W0
  intro hz2 HR1 HF1 HW1 H61
  clear hW
  generalize w1.heap.size = B6 at *
  have HB6 : Hid (w.heap.size + 1 + 1 < B6 + 1) := Lib.hid (by omega)
  have HKEEP : Hid (∀ w', Below W0.heap.size W0 w' → w'.cell? ⟨w.heap.size + 1 + 1, 0, none⟩ = some (.int .i64 m) ∧ w'.cell? ⟨w.heap.size + 1 + 1, 1, none⟩ = some (.int .i64 (pr m)) ∧ w'.cell? ⟨w.heap.size + 1 + 1, 2, none⟩ = some (.int .i64 (pl m))) := Lib.hid fun w' hb => by
    obtain ⟨x0, x1, x2, _⟩ := cells3' ((hb.block _ (Array.getElem?_eq_some_iff.1 HF1.out).1).trans HF1.out)
    exact ⟨x0, x1, x2⟩
  refine region_cut' (fun a' w' => ∃ (P7 P8 : Nat) (v7 v8 : Value) (x : Nat → Value), a' = { tmps := #[elE (m : Int) a, .int .i64 n, .pointer (some ⟨w.heap.size, 0, none⟩), undef, .pointer (some ⟨w.heap.size + 1, 0, none⟩), .pointer (some ⟨w.heap.size + 1 + 1, 0, none⟩), .pointer (some ⟨B6, 0, none⟩), x 7, x 8, .pointer (some ⟨w.heap.size, 0, none⟩), .agg #[.int .i64 m, .int .i64 (pr m), .int .i64 (pl m)], .agg #[.int .i64 m, .int .i64 (pr m), .int .i64 (pl m), .int .i64 (dg m a 0), .int .i64 (dg m a 1), .int .i64 (dg m a 2), .int .i64 (dg m a 3)], elE (m : Int) s, x 13, x 14, x 15, x 16, x 17, x 18, x 19, x 20, x 21, x 22, undef, undef, undef, undef, undef, undef, undef, undef, undef, undef, undef, undef], defers := [] } ∧ x 7 = .pointer (some ⟨P7, 0, none⟩) ∧ x 8 = .pointer (some ⟨P8, 0, none⟩) ∧ DK w w' m s B6 P7 P8 v7 v8 (T 0) (T 1)) ?_ ?_
  · intro KC hKC
    have HKC := Lib.hid hKC
    clear hKC
    refine region_inv (by kernel_rfl) (by kernel_rfl) (DI (fun x => { tmps := #[elE (m : Int) a, .int .i64 n, .pointer (some ⟨w.heap.size, 0, none⟩), undef, .pointer (some ⟨w.heap.size + 1, 0, none⟩), .pointer (some ⟨w.heap.size + 1 + 1, 0, none⟩), .pointer (some ⟨B6, 0, none⟩), x 7, x 8, .pointer (some ⟨w.heap.size, 0, none⟩), .agg #[.int .i64 m, .int .i64 (pr m), .int .i64 (pl m)], .agg #[.int .i64 m, .int .i64 (pr m), .int .i64 (pl m), .int .i64 (dg m a 0), .int .i64 (dg m a 1), .int .i64 (dg m a 2), .int .i64 (dg m a 3)], elE (m : Int) s, x 13, x 14, x 15, x 16, x 17, x 18, x 19, x 20, x 21, x 22, undef, undef, undef, undef, undef, undef, undef, undef, undef, undef, undef, undef], defers := [] }) W0 m c (T 0) (T 1)) ?_ ?_ ?_
    · exact ⟨fun _ => undef, rfl, by (repeat' (first | (with_reducible assumption) | (with_reducible exact Below.refl _ _) | (with_reducible refine below_drewN ?_ _) | (with_reducible refine Below.drew ?_) | (with_reducible refine Below.alloc ?_ ?_ _) | (with_reducible refine Below.setCell ?_ ?_ _) | (with_reducible refine Below.trans ?_ (Below.mono (by assumption) ?_)) | (with_reducible exact Nat.le_refl _) | (with_reducible assumption) | omega | (simp; omega) | (simp; done))), .inl ⟨rfl, rfl, Ph.none _ _ (by decide), (fun hc => by cases hc), (fun hc => by cases hc)⟩⟩
    · intro L a' w' i o ho hi hdep hI K hK
      have HK := Lib.hid hK
      clear hK
      have hi14 : i < 14 := by simpa using (Array.getElem?_eq_some_iff.1 ho).1
      by_cases hi13 : i < 13
      · obtain ⟨x, rfl, hb, hd⟩ := hI.early hi13 hi
        have HI := Lib.hid hI
        obtain ⟨c0, c1, c2⟩ := HKEEP.out _ hb
        have hlo := hb.size
        have HD := Lib.hid hd
        have HBW := Lib.hid hb
        clear hd hb hI
        have hcs : i = 0 ∨ i = 1 ∨ i = 2 ∨ i = 3 ∨ i = 4 ∨ i = 5 ∨ i = 6 ∨ i = 7 ∨ i = 8 ∨ i = 9 ∨ i = 10 ∨ i = 11 ∨ i = 12 := by omega
        clear hi13 hi14
        rcases hcs with rfl | rfl | rfl | rfl | rfl | rfl | rfl | rfl | rfl | rfl | rfl | rfl | rfl
        · obtain rfl := Option.some.inj ho
          clear ho
          clear hdep
          go_simp
          refine HK.out _ _ (DI.mk1 (sv x 13 (fdE (m : Int))) rfl HBW.out (HD.out.next (i := 0) (by omega) (Below.refl _ _) (fun k hk => sv_ne hk) rfl))
        · obtain rfl := Option.some.inj ho
          clear ho
          clear hdep
          go_simp
          refine HK.out _ _ (DI.mk1 (sv x 14 (fdE (m : Int))) rfl HBW.out (HD.out.next (i := 1) (by omega) (Below.refl _ _) (fun k hk => sv_ne hk) rfl))
        · obtain rfl := Option.some.inj ho
          clear ho
          have d1 := HD.out.ph 1 (by omega) (hdep ⟨1, .data⟩ (by simp) rfl)
          replace d1 : x 14 = fdE (m : Int) := d1
          have hy0 : (sv x 14 (fdE (m : Int))) = x := sv_same d1
          have HY := Lib.hid hy0
          rw [d1]
          clear hy0 d1
          clear hdep c0 c1 c2
          go_simp
          refine (HO.out _).mono ?_
          rintro e w2 ⟨rfl, hb2⟩
          go_wp2_with fail
          refine HK.out _ _ (DI.mk1 (sv (sv x 14 (fdE (m : Int))) 15 (elE (m : Int) 1)) rfl (HBW.out.trans (hb2.mono hlo)) (HD.out.next (i := 2) (by omega) hb2 (fun k hk => (sv_ne hk).trans (by rw [HY.out])) rfl))
        · obtain rfl := Option.some.inj ho
          clear ho
          clear hdep
          go_simp
          refine HK.out _ _ (DI.mk1 (sv x 16 (fdE (m : Int))) rfl HBW.out (HD.out.next (i := 3) (by omega) (Below.refl _ _) (fun k hk => sv_ne hk) rfl))
        · obtain rfl := Option.some.inj ho
          clear ho
          have d3 := HD.out.ph 3 (by omega) (hdep ⟨3, .data⟩ (by simp) rfl)
          replace d3 : x 16 = fdE (m : Int) := d3
          have hy0 : (sv x 16 (fdE (m : Int))) = x := sv_same d3
          have HY := Lib.hid hy0
          rw [d3]
          clear hy0 d3
          clear hdep c0 c1 c2
          go_simp
          refine (HO.out _).mono ?_
          rintro e w2 ⟨rfl, hb2⟩
          go_wp2_with fail
          refine HK.out _ _ (DI.mk1 (sv (sv x 16 (fdE (m : Int))) 17 (elE (m : Int) 1)) rfl (HBW.out.trans (hb2.mono hlo)) (HD.out.next (i := 4) (by omega) hb2 (fun k hk => (sv_ne hk).trans (by rw [HY.out])) rfl))
        · obtain rfl := Option.some.inj ho
          clear ho
          have d2 := HD.out.ph 2 (by omega) (hdep ⟨2, .data⟩ (by simp) rfl)
          have d4 := HD.out.ph 4 (by omega) (hdep ⟨4, .data⟩ (by simp) rfl)
          replace d2 : x 15 = elE (m : Int) 1 := d2
          replace d4 : x 17 = elE (m : Int) 1 := d4
          have hy0 : (sv x 15 (elE (m : Int) 1)) = x := sv_same d2
          have hy1 : (sv (sv x 15 (elE (m : Int) 1)) 17 (elE (m : Int) 1)) = x := by rw [hy0]; exact sv_same d4
          have HY := Lib.hid hy1
          rw [d2, d4]
          clear hy0 hy1 d2 d4
          clear hdep c0 c1 c2
          go_simp
          refine (HP.out _).mono ?_
          rintro e w2 ⟨rfl, hb2⟩
          go_wp2_with fail
          refine HK.out _ _ (DI.mk1 (sv (sv (sv x 15 (elE (m : Int) 1)) 17 (elE (m : Int) 1)) 18 (elE (m : Int) c)) rfl (HBW.out.trans (hb2.mono hlo)) (HD.out.next (i := 5) (by omega) hb2 (fun k hk => (sv_ne hk).trans (by rw [HY.out])) rfl))
        · obtain rfl := Option.some.inj ho
          clear ho
          have d5 := HD.out.ph 5 (by omega) (hdep ⟨5, .data⟩ (by simp) rfl)
          replace d5 : x 18 = elE (m : Int) c := d5
          have hy0 : (sv x 18 (elE (m : Int) c)) = x := sv_same d5
          have HY := Lib.hid hy0
          rw [d5]
          clear hy0 d5
          clear hdep c0 c1 c2
          go_simp
          refine HK.out _ _ (DI.mk1 (sv (sv x 18 (elE (m : Int) c)) 19 (.slice (some ⟨w'.heap.size, 0, none⟩) 1 1)) rfl (by have hbw := HBW.out; (repeat' (first | (with_reducible assumption) | (with_reducible exact Below.refl _ _) | (with_reducible refine below_drewN ?_ _) | (with_reducible refine Below.drew ?_) | (with_reducible refine Below.alloc ?_ ?_ _) | (with_reducible refine Below.setCell ?_ ?_ _) | (with_reducible refine Below.trans ?_ (Below.mono (by assumption) ?_)) | (with_reducible exact Nat.le_refl _) | (with_reducible assumption) | omega | (simp; omega) | (simp; done)))) (HD.out.next (i := 6) (by omega) (by (repeat' (first | (with_reducible assumption) | (with_reducible exact Below.refl _ _) | (with_reducible refine below_drewN ?_ _) | (with_reducible refine Below.drew ?_) | (with_reducible refine Below.alloc ?_ ?_ _) | (with_reducible refine Below.setCell ?_ ?_ _) | (with_reducible refine Below.trans ?_ (Below.mono (by assumption) ?_)) | (with_reducible exact Nat.le_refl _) | (with_reducible assumption) | omega | (simp; omega) | (simp; done)))) (fun k hk => (sv_ne hk).trans (by rw [HY.out])) ⟨_, rfl, heap_alloc_new _ _⟩))
        · obtain rfl := Option.some.inj ho
          clear ho
          have d0 := HD.out.ph 0 (by omega) (hdep ⟨0, .data⟩ (by simp) rfl)
          have d6 := HD.out.ph 6 (by omega) (hdep ⟨6, .data⟩ (by simp) rfl)
          obtain ⟨B, e19, hB⟩ := d6
          replace d0 : x 13 = fdE (m : Int) := d0
          replace e19 : x 19 = .slice (some ⟨B, 0, none⟩) 1 1 := e19
          have hy0 : (sv x 13 (fdE (m : Int))) = x := sv_same d0
          have hy1 : (sv (sv x 13 (fdE (m : Int))) 19 (.slice (some ⟨B, 0, none⟩) 1 1)) = x := by rw [hy0]; exact sv_same e19
          have HY := Lib.hid hy1
          rw [d0, e19]
          clear hy0 hy1 d0 e19
          clear hdep c0 c1 c2
          go_simp
          refine (HRD.out B _ hB).mono ?_
          rintro e w2 ⟨v2, rfl, hv2, hb2⟩
          go_wp2_with fail
          refine HK.out _ _ (DI.mk1 (sv (sv (sv x 13 (fdE (m : Int))) 19 (.slice (some ⟨B, 0, none⟩) 1 1)) 20 (polyE (m : Int) v2)) rfl (HBW.out.trans (hb2.mono hlo)) (HD.out.next (i := 7) (by omega) hb2 (fun k hk => (sv_ne hk).trans (by rw [HY.out])) ⟨v2, rfl, hv2⟩))
        · obtain rfl := Option.some.inj ho
          clear ho
          clear hdep
          go_simp
          refine HK.out _ _ (DI.mk1 (sv x 21 (fdE (m : Int))) rfl HBW.out (HD.out.next (i := 8) (by omega) (Below.refl _ _) (fun k hk => sv_ne hk) rfl))
        · obtain rfl := Option.some.inj ho
          clear ho
          have d8 := HD.out.ph 8 (by omega) (hdep ⟨8, .data⟩ (by simp) rfl)
          have H89 := Lib.hid (hdep ⟨8, .data⟩ (by simp) rfl)
          replace d8 : x 21 = fdE (m : Int) := d8
          have hy0 : (sv x 21 (fdE (m : Int))) = x := sv_same d8
          have HY := Lib.hid hy0
          rw [d8]
          clear hy0 d8
          clear hdep c0 c1 c2
          go_simp
          refine (HX.out _).mono ?_
          rintro e w2 ⟨v2, rfl, hv2, hb2⟩
          go_wp2_with fail
          refine HK.out _ _ (DI.mk1 (sv (sv x 21 (fdE (m : Int))) 22 (polyE (m : Int) v2)) rfl (HBW.out.trans (hb2.mono hlo)) (HD.out.next (i := 9) (by omega) hb2 (fun k hk => (sv_ne hk).trans (by rw [HY.out])) ⟨v2, rfl, hv2⟩ (fun _ => H89.out)))
        · obtain rfl := Option.some.inj ho
          clear ho
          clear hdep c0 c1 c2
          go_simp
          refine HK.out _ _ (DI.mk1 (sv x 7 (.pointer (some ⟨w'.heap.size, 0, none⟩))) rfl (by have hbw := HBW.out; (repeat' (first | (with_reducible assumption) | (with_reducible exact Below.refl _ _) | (with_reducible refine below_drewN ?_ _) | (with_reducible refine Below.drew ?_) | (with_reducible refine Below.alloc ?_ ?_ _) | (with_reducible refine Below.setCell ?_ ?_ _) | (with_reducible refine Below.trans ?_ (Below.mono (by assumption) ?_)) | (with_reducible exact Nat.le_refl _) | (with_reducible assumption) | omega | (simp; omega) | (simp; done)))) (HD.out.al10 hlo (fun k hk => sv_ne hk) rfl))
        · obtain rfl := Option.some.inj ho
          clear ho
          clear hdep c0 c1 c2
          go_simp
          refine HK.out _ _ (DI.mk1 (sv x 8 (.pointer (some ⟨w'.heap.size, 0, none⟩))) rfl (by have hbw := HBW.out; (repeat' (first | (with_reducible assumption) | (with_reducible exact Below.refl _ _) | (with_reducible refine below_drewN ?_ _) | (with_reducible refine Below.drew ?_) | (with_reducible refine Below.alloc ?_ ?_ _) | (with_reducible refine Below.setCell ?_ ?_ _) | (with_reducible refine Below.trans ?_ (Below.mono (by assumption) ?_)) | (with_reducible exact Nat.le_refl _) | (with_reducible assumption) | omega | (simp; omega) | (simp; done)))) (HD.out.al11 hlo (fun k hk => sv_ne hk) rfl))
        · obtain rfl := Option.some.inj ho
          clear ho
          have d10 := HD.out.ph 10 (by omega) (hdep ⟨10, .data⟩ (by simp) rfl)
          have d7 := HD.out.ph 7 (by omega) (hdep ⟨7, .data⟩ (by simp) rfl)
          have d9 := HD.out.ph 9 (by omega) (hdep ⟨9, .chain⟩ (by simp) rfl)
          have d11 := HD.out.ph 11 (by omega) (hdep ⟨11, .phase⟩ (by simp) rfl)
          have hall : ∀ j, j < 13 → (L.setIfInBounds 12 true).getD j false = true := all12 hdep HD.out.n12 (HD.out.e89 (hdep ⟨9, .chain⟩ (by simp) rfl)) (by decide)
          obtain ⟨P7, e7, l7, h7⟩ := d10
          obtain ⟨P8, e8, l8, h8⟩ := d11
          obtain ⟨v7, e20, p7⟩ := d7
          obtain ⟨a7, k7, c7, rfl⟩ := p7.slice
          obtain ⟨v8, e22, p8⟩ := d9
          have hne : P7 ≠ P8 := fun e => HD.out.ne (hdep ⟨10, .data⟩ (by simp) rfl) (hdep ⟨11, .phase⟩ (by simp) rfl) (by rw [show x 7 = _ from e7, show x 8 = _ from e8, e])
          have HALL := Lib.hid hall
          have E7 := Lib.hid (show x 7 = .pointer (some ⟨P7, 0, none⟩) from e7)
          have E8 := Lib.hid (show x 8 = .pointer (some ⟨P8, 0, none⟩) from e8)
          have E22 := Lib.hid (show x 22 = polyE (m : Int) v8 from e22)
          have H7 := Lib.hid h7
          have H8 := Lib.hid h8
          have P7H := Lib.hid p7
          have P8H := Lib.hid p8
          obtain ⟨q0, q1, q2, q3, qf, ql⟩ := cells4 h7
          clear hall e8 e22 h7 h8 p7 p8
          replace e7 : x 7 = .pointer (some ⟨P7, 0, none⟩) := e7
          replace e20 : x 20 = polyE (m : Int) (.slice a7 k7 c7) := e20
          have hy0 : (sv x 7 (.pointer (some ⟨P7, 0, none⟩))) = x := sv_same e7
          have hy1 : (sv (sv x 7 (.pointer (some ⟨P7, 0, none⟩))) 20 (polyE (m : Int) (.slice a7 k7 c7))) = x := by rw [hy0]; exact sv_same e20
          have HY := Lib.hid hy1
          rw [e7, e20]
          clear hy0 hy1 e7 e20
          clear hdep c0 c1 c2
          go_simp
          refine HK.out _ (put4 w' P7 (m : Int) (.slice a7 k7 c7)) ⟨sv (sv x 7 (.pointer (some ⟨P7, 0, none⟩))) 20 (polyE (m : Int) (.slice a7 k7 c7)), rfl, put4_below HBW.out _ l7 _ _, .inr (.inl ⟨HALL.out, by rw [getD_set_ne true (by omega)]; exact HD.out.n13, ?_⟩)⟩
          rw [HY.out]
          refine ⟨P7, P8, _, v8, E7.out, E8.out, E22.out, l7, l8, hne, put4_heapQ _ _ H7.out, (put4_other _ _ _ _ _ (Ne.symm hne)).trans H8.out, P7H.out.over' H7.out (fun k hk => put4_other _ _ _ _ _ hk) (put4_size _ _ _ _), P8H.out.over' H7.out (fun k hk => put4_other _ _ _ _ _ hk) (put4_size _ _ _ _)⟩
      · obtain rfl : i = 13 := by omega
        obtain rfl := Option.some.inj ho
        clear ho hi14 hi13
        obtain ⟨x, rfl, hb, h1 | ⟨hall, n13, P7, P8, v7, v8, e7, e8, e22, l7, l8, hne, h7, h8, p7, p8⟩ | ⟨hall, _⟩⟩ := hI.open
        · exact (not_done h1.n12 (hdep ⟨12, .chain⟩ (by simp) rfl)).elim
        · have HBW := Lib.hid hb
          clear hb
          have hall' : ∀ j, j < 14 → (L.setIfInBounds 13 true).getD j false = true := all13 hall hi
          obtain ⟨a8, k8, c8, rfl⟩ := p8.slice
          have hx := sv_same e8
          have hy : sv (sv x 8 (.pointer (some ⟨P8, 0, none⟩))) 22 (polyE (m : Int) (.slice a8 k8 c8)) = x := by rw [hx]; exact sv_same e22
          have HY := Lib.hid hy
          have HALL := Lib.hid hall'
          have E7 := Lib.hid e7
          have E8 := Lib.hid e8
          have E22 := Lib.hid e22
          have H7 := Lib.hid h7
          have H8 := Lib.hid (show w'.heap[P8]? = some pzblk from h8)
          have P7H := Lib.hid p7
          have P8H := Lib.hid p8
          rw [e8, e22]
          obtain ⟨q0, q1, q2, q3, qf, ql⟩ := cells4 (show w'.heap[P8]? = some pzblk from h8)
          clear hdep hx hy hall hall' e7 e8 e22 h7 h8 p7 p8
          go_simp
          refine HK.out _ (put4 w' P8 (m : Int) (.slice a8 k8 c8)) ⟨sv (sv x 8 (.pointer (some ⟨P8, 0, none⟩))) 22 (polyE (m : Int) (.slice a8 k8 c8)), rfl, put4_below HBW.out _ l8 _ _, .inr (.inr ⟨HALL.out, ?_⟩)⟩
          rw [HY.out]
          exact ⟨P7, P8, v7, _, E7.out, E8.out, E22.out, l7, l8, hne, (put4_other _ _ _ _ _ hne).trans H7.out, put4_heapQ _ _ H8.out, P7H.out.over' H8.out (fun k hk => put4_other _ _ _ _ _ hk) (put4_size _ _ _ _), P8H.out.over' H8.out (fun k hk => put4_other _ _ _ _ _ hk) (put4_size _ _ _ _)⟩
        · exact (not_done hi (hall 13 (by omega))).elim
    · intro L a' w' hall hI
      obtain ⟨x, rfl, hb, h1 | ⟨_, n13, _⟩ | ⟨_, P7, P8, v7, v8, e7, e8, e22, l7, l8, hne, h7, h8, p7, p8⟩⟩ := hI.open
      · exact (not_done h1.n12 (hall 12 (by decide))).elim
      · exact (not_done n13 (hall 13 (by decide))).elim
      · have hz := HW1.out.size
        have hB6 := HB6.out
        refine HKC.out _ _ ⟨P7, P8, v7, v8, x, rfl, e7, e8, ?_⟩
        exact ⟨(hb.block _ (Array.getElem?_eq_some_iff.1 HR1.out).1).trans HR1.out, (hb.block _ (Array.getElem?_eq_some_iff.1 H61.out).1).trans H61.out, h7, h8, p7, p8, HW1.out.trans (hb.mono hz), by omega, by omega, by omega, by omega, by omega, hne⟩
  · rintro _ W3 ⟨P7, P8, v7, v8, y, rfl, e7, e8, hdk⟩
    rw [e7, e8]
    clear e7 e8
    have HDK := Lib.hid hdk
    clear hdk HKEEP HR1 HF1 HW1 H61 HB6
    go_wp2_with fail
    go_loopw [24] (fun vi wr => ∃ (k : Nat) (u7 u8 : Value), k ≤ n ∧ vi = .int .i64 k ∧ DK w wr m s B6 P7 P8 u7 u8 (T k) (T (k + 1))) (fun vi _ => n - (intOf vi).toNat)
    case atStart => exact ⟨0, v7, v8, Nat.zero_le _, rfl, HDK.out⟩
    case round =>
      obtain ⟨k, u7, u8, hk, rfl, hd⟩ := hrel
      obtain ⟨a7, k7, c7, rfl⟩ := hd.p7.slice
      obtain ⟨p0, p1, p2, p3, pf, pl0⟩ := cells4 hd.h7
      obtain ⟨r0, r1, r2, r3, rf, rl0⟩ := cells4 hd.hr
      have hz := hd.bel.size
      by_cases hlt : k < n
      · obtain ⟨o0, o1, o2, o3, of, ol0⟩ := cells4 hd.h8
        obtain ⟨s0, s1, s2, s3, s4, s5, s6, sf, sl⟩ := seven hd.h6
        have HD := Lib.hid hd
        have HST' := Lib.hid (HST.out k)
        obtain ⟨a8, k8, c8, rfl⟩ := hd.p8.slice
        clear hd p0 p1 p2 p3 pf r0 r1 r2 r3 rf o0 o1 o2 o3 of s0 s1 s2 s3 s4 s5 s6 sf
        go_wp2_with fail
        refine region_cut' (fun a' w' => ∃ (u9 : Value) (x : Nat → Value) (wa : World), a' = { tmps := #[elE (m : Int) a, .int .i64 n, .pointer (some ⟨w.heap.size, 0, none⟩), undef, .pointer (some ⟨w.heap.size + 1, 0, none⟩), .pointer (some ⟨w.heap.size + 1 + 1, 0, none⟩), .pointer (some ⟨B6, 0, none⟩), .pointer (some ⟨P7, 0, none⟩), .pointer (some ⟨P8, 0, none⟩), .pointer (some ⟨w.heap.size, 0, none⟩), .agg #[.int .i64 m, .int .i64 (pr m), .int .i64 (pl m)], .agg #[.int .i64 m, .int .i64 (pr m), .int .i64 (pl m), .int .i64 (dg m a 0), .int .i64 (dg m a 1), .int .i64 (dg m a 2), .int .i64 (dg m a 3)], elE (m : Int) s, y 13, y 14, y 15, y 16, y 17, y 18, y 19, y 20, y 21, y 22, .int .i64 n, .int .i64 k, .bool true, x 26, x 27, x 28, x 29, x 30, x 31, x 32, u33, undef], defers := [] } ∧ Below wr.heap.size wr wa ∧ IsP wa u9 m (T (k + 2)) ∧ w' = put4 (put4 wa P7 (m : Int) (.slice a8 k8 c8)) P8 (m : Int) u9) ?_ ?_
        · intro KC hKC
          have HKC := Lib.hid hKC
          clear hKC
          refine region_inv2 (by kernel_rfl) (by kernel_rfl) (EI (fun x => { tmps := #[elE (m : Int) a, .int .i64 n, .pointer (some ⟨w.heap.size, 0, none⟩), undef, .pointer (some ⟨w.heap.size + 1, 0, none⟩), .pointer (some ⟨w.heap.size + 1 + 1, 0, none⟩), .pointer (some ⟨B6, 0, none⟩), .pointer (some ⟨P7, 0, none⟩), .pointer (some ⟨P8, 0, none⟩), .pointer (some ⟨w.heap.size, 0, none⟩), .agg #[.int .i64 m, .int .i64 (pr m), .int .i64 (pl m)], .agg #[.int .i64 m, .int .i64 (pr m), .int .i64 (pl m), .int .i64 (dg m a 0), .int .i64 (dg m a 1), .int .i64 (dg m a 2), .int .i64 (dg m a 3)], elE (m : Int) s, y 13, y 14, y 15, y 16, y 17, y 18, y 19, y 20, y 21, y 22, .int .i64 n, .int .i64 k, .bool true, x 26, x 27, x 28, x 29, x 30, x 31, x 32, u33, undef], defers := [] }) wr m s (.slice a7 k7 c7) (.slice a8 k8 c8) P7 P8 (T k) (T (k + 1)) (T (k + 2))) ?_ ?_ ?_
          · exact ⟨sv (sv (sv (sv (sv (sv (sv (fun _ => undef) 26 u26) 27 u27) 28 u28) 29 u29) 30 u30) 31 u31) 32 u32, rfl, .inl ⟨rfl, rfl, by (repeat' (first | (with_reducible assumption) | (with_reducible exact Below.refl _ _) | (with_reducible refine below_drewN ?_ _) | (with_reducible refine Below.drew ?_) | (with_reducible refine Below.alloc ?_ ?_ _) | (with_reducible refine Below.setCell ?_ ?_ _) | (with_reducible refine Below.trans ?_ (Below.mono (by assumption) ?_)) | (with_reducible exact Nat.le_refl _) | (with_reducible assumption) | omega | (simp; omega) | (simp; done))), Ph.none _ _ (by decide)⟩⟩
          · intro L a' w' i o ho hi hdep hcl hI K hK
            have HK := Lib.hid hK
            clear hK
            have hi9 : i < 9 := by simpa using (Array.getElem?_eq_some_iff.1 ho).1
            obtain ⟨x, rfl, ⟨n7, n8, hb, hph⟩ | ⟨l7', n8, hmid⟩ | ⟨l8', hfin⟩⟩ := hI.open
            · have hd' := HD.out.below hb (Nat.le_refl _)
              obtain ⟨p0, p1, p2, p3, pf, pl⟩ := cells4 hd'.h7
              obtain ⟨o0, o1, o2, o3, of, ol⟩ := cells4 hd'.h8
              obtain ⟨s0, s1, s2, s3, s4, s5, s6, sf, sl⟩ := seven hd'.h6
              have HPH := Lib.hid hph
              have HBW := Lib.hid hb
              have HD' := Lib.hid hd'
              have hlo := hb.size
              have N7 := Lib.hid n7
              have N8 := Lib.hid n8
              have CL : p0 = p0 := rfl
              clear hd' hb hph hcl n7 n8 CL
              have hcs : i = 0 ∨ i = 1 ∨ i = 2 ∨ i = 3 ∨ i = 4 ∨ i = 5 ∨ i = 6 ∨ i = 7 ∨ i = 8 := by omega
              clear hi9
              rcases hcs with rfl | rfl | rfl | rfl | rfl | rfl | rfl | rfl | rfl
              · obtain rfl := Option.some.inj ho
                clear ho
                clear hdep
                go_simp
                refine HK.out _ _ (EI.mk1 (sv x 26 (polyE (m : Int) (.slice a8 k8 c8))) rfl (by omega) N7.out N8.out HBW.out (HPH.out.step (i := 0) (EF_mono (Below.refl _ _)) (esl_ne 0 (by omega)) (fun k hk => sv_ne hk) rfl))
              · obtain rfl := Option.some.inj ho
                clear ho
                clear hdep
                go_simp
                refine HK.out _ _ (EI.mk1 (sv x 27 (polyE (m : Int) (.slice a8 k8 c8))) rfl (by omega) N7.out N8.out HBW.out (HPH.out.step (i := 1) (EF_mono (Below.refl _ _)) (esl_ne 1 (by omega)) (fun k hk => sv_ne hk) rfl))
              · obtain rfl := Option.some.inj ho
                clear ho
                have d1 := HPH.out 1 (by omega) (hdep ⟨1, .data⟩ (by simp) rfl)
                replace d1 : x 27 = polyE (m : Int) (.slice a8 k8 c8) := d1
                have hy0 : (sv x 27 (polyE (m : Int) (.slice a8 k8 c8))) = x := sv_same d1
                have HY := Lib.hid hy0
                rw [d1]
                clear hy0 d1
                clear hdep p0 p1 p2 p3 pf o0 o1 o2 o3 of s0 s1 s2 s3 s4 s5 s6 sf
                go_simp
                refine (HTX.out _ _ _ HD'.out.p8).mono ?_
                rintro e w2 ⟨v2, rfl, hv2, hb2⟩
                go_wp2_with fail
                refine HK.out _ _ (EI.mk1 (sv (sv x 27 (polyE (m : Int) (.slice a8 k8 c8))) 28 (polyE (m : Int) v2)) rfl (by omega) N7.out N8.out (HBW.out.trans (hb2.mono hlo)) (HPH.out.step (i := 2) (EF_mono hb2) (esl_ne 2 (by omega)) (fun k hk => (sv_ne hk).trans (by rw [HY.out])) ⟨v2, rfl, hv2⟩))
              · obtain rfl := Option.some.inj ho
                clear ho
                clear hdep
                go_simp
                refine HK.out _ _ (EI.mk1 (sv x 29 (polyE (m : Int) (.slice a7 k7 c7))) rfl (by omega) N7.out N8.out HBW.out (HPH.out.step (i := 3) (EF_mono (Below.refl _ _)) (esl_ne 3 (by omega)) (fun k hk => sv_ne hk) rfl))
              · obtain rfl := Option.some.inj ho
                clear ho
                clear hdep
                go_simp
                refine HK.out _ _ (EI.mk1 (sv x 30 (elE (m : Int) s)) rfl (by omega) N7.out N8.out HBW.out (HPH.out.step (i := 4) (EF_mono (Below.refl _ _)) (esl_ne 4 (by omega)) (fun k hk => sv_ne hk) rfl))
              · obtain rfl := Option.some.inj ho
                clear ho
                have d3 := HPH.out 3 (by omega) (hdep ⟨3, .data⟩ (by simp) rfl)
                have d4 := HPH.out 4 (by omega) (hdep ⟨4, .data⟩ (by simp) rfl)
                replace d3 : x 29 = polyE (m : Int) (.slice a7 k7 c7) := d3
                replace d4 : x 30 = elE (m : Int) s := d4
                have hy0 : (sv x 29 (polyE (m : Int) (.slice a7 k7 c7))) = x := sv_same d3
                have hy1 : (sv (sv x 29 (polyE (m : Int) (.slice a7 k7 c7))) 30 (elE (m : Int) s)) = x := by rw [hy0]; exact sv_same d4
                have HY := Lib.hid hy1
                rw [d3, d4]
                clear hy0 hy1 d3 d4
                clear hdep p0 p1 p2 p3 pf o0 o1 o2 o3 of s0 s1 s2 s3 s4 s5 s6 sf
                go_simp
                refine (HSC.out _ _ _ HD'.out.p7).mono ?_
                rintro e w2 ⟨v2, rfl, hv2, hb2⟩
                go_wp2_with fail
                refine HK.out _ _ (EI.mk1 (sv (sv (sv x 29 (polyE (m : Int) (.slice a7 k7 c7))) 30 (elE (m : Int) s)) 31 (polyE (m : Int) v2)) rfl (by omega) N7.out N8.out (HBW.out.trans (hb2.mono hlo)) (HPH.out.step (i := 5) (EF_mono hb2) (esl_ne 5 (by omega)) (fun k hk => (sv_ne hk).trans (by rw [HY.out])) ⟨v2, rfl, hv2⟩))
              · obtain rfl := Option.some.inj ho
                clear ho
                have d2 := HPH.out 2 (by omega) (hdep ⟨2, .data⟩ (by simp) rfl)
                have d5 := HPH.out 5 (by omega) (hdep ⟨5, .data⟩ (by simp) rfl)
                obtain ⟨v5, e28, hp5⟩ := d2
                obtain ⟨v6, e31, hp6⟩ := d5
                have P5 := Lib.hid hp5
                have P6 := Lib.hid hp6
                clear hp5 hp6
                replace e28 : x 28 = polyE (m : Int) v5 := e28
                replace e31 : x 31 = polyE (m : Int) v6 := e31
                have hy0 : (sv x 28 (polyE (m : Int) v5)) = x := sv_same e28
                have hy1 : (sv (sv x 28 (polyE (m : Int) v5)) 31 (polyE (m : Int) v6)) = x := by rw [hy0]; exact sv_same e31
                have HY := Lib.hid hy1
                rw [e28, e31]
                clear hy0 hy1 e28 e31
                clear hdep p0 p1 p2 p3 pf o0 o1 o2 o3 of s0 s1 s2 s3 s4 s5 s6 sf
                go_simp
                refine (HPL.out _ _ _ _ _ P5.out P6.out).mono ?_
                rintro e w2 ⟨v2, rfl, hv2, hb2⟩
                go_wp2_with fail
                refine HK.out _ _ (EI.mk1 (sv (sv (sv x 28 (polyE (m : Int) v5)) 31 (polyE (m : Int) v6)) 32 (polyE (m : Int) v2)) rfl (by omega) N7.out N8.out (HBW.out.trans (hb2.mono hlo)) (HPH.out.step (i := 6) (EF_mono hb2) (esl_ne 6 (by omega)) (fun k hk => (sv_ne hk).trans (by rw [HY.out])) ⟨v2, rfl, hv2.like fun a _ => HST'.out a⟩))
              · obtain rfl := Option.some.inj ho
                clear ho
                have d0 := HPH.out 0 (by omega) (hdep ⟨0, .data⟩ (by simp) rfl)
                have d6 := HPH.out 6 (by omega) (hdep ⟨6, .chain⟩ (by simp) rfl)
                have L7 : Hid ((L.setIfInBounds 7 true).getD 7 false = true) := Lib.hid (set_done hi)
                obtain ⟨u9, e32, hu9⟩ := d6
                have E32 := Lib.hid (show x 32 = polyE (m : Int) u9 from e32)
                have HU := Lib.hid hu9
                clear e32 hu9
                replace d0 : x 26 = polyE (m : Int) (.slice a8 k8 c8) := d0
                have hy0 : (sv x 26 (polyE (m : Int) (.slice a8 k8 c8))) = x := sv_same d0
                have HY := Lib.hid hy0
                rw [d0]
                clear hy0 d0
                clear hdep o0 o1 o2 o3 of s0 s1 s2 s3 s4 s5 s6 sf
                go_simp
                refine HK.out _ (put4 w' P7 (m : Int) (.slice a8 k8 c8)) ⟨sv x 26 (polyE (m : Int) (.slice a8 k8 c8)), rfl, .inr (.inl ⟨L7.out, by rw [getD_set_ne true (by omega)]; exact N8.out, u9, w', by rw [HY.out]; exact E32.out, HBW.out, HU.out, rfl⟩)⟩
              · obtain rfl := Option.some.inj ho
                clear ho
                exact (not_done N7.out (hdep ⟨7, .chain⟩ (by simp) rfl)).elim
            · have l6' := hcl 7 _ rfl l7' ⟨6, .chain⟩ (by simp) rfl
              have l0' := hcl 7 _ rfl l7' ⟨0, .data⟩ (by simp) rfl
              have l5' := hcl 6 _ rfl l6' ⟨5, .data⟩ (by simp) rfl
              have l2' := hcl 6 _ rfl l6' ⟨2, .data⟩ (by simp) rfl
              have l1' := hcl 2 _ rfl l2' ⟨1, .data⟩ (by simp) rfl
              have l3' := hcl 5 _ rfl l5' ⟨3, .data⟩ (by simp) rfl
              have l4' := hcl 5 _ rfl l5' ⟨4, .data⟩ (by simp) rfl
              have hcs : i = 0 ∨ i = 1 ∨ i = 2 ∨ i = 3 ∨ i = 4 ∨ i = 5 ∨ i = 6 ∨ i = 7 ∨ i = 8 := by omega
              rcases hcs with rfl | rfl | rfl | rfl | rfl | rfl | rfl | rfl | rfl
              · exact (not_done hi l0').elim
              · exact (not_done hi l1').elim
              · exact (not_done hi l2').elim
              · exact (not_done hi l3').elim
              · exact (not_done hi l4').elim
              · exact (not_done hi l5').elim
              · exact (not_done hi l6').elim
              · exact (not_done hi l7').elim
              · obtain rfl := Option.some.inj ho
                clear ho hi9 hdep hcl l0' l1' l2' l3' l4' l5' l6'
                obtain ⟨u9, wa, e32, hb, hu9, hw⟩ := hmid
                obtain ⟨a9, k9, c9, rfl⟩ := hu9.slice
                have hd' := HD.out.below hb (Nat.le_refl _)
                have h8 : w'.heap[P8]? = some (pblk (m : Int) (.slice a8 k8 c8)) := by rw [hw]; exact (put4_other _ _ _ _ _ (Ne.symm hd'.n78)).trans hd'.h8
                obtain ⟨o0, o1, o2, o3, of, ol⟩ := cells4 h8
                have hy := sv_same e32
                have HY := Lib.hid hy
                have HB := Lib.hid hb
                have HU := Lib.hid hu9
                have E32 := Lib.hid e32
                have L78 : Hid ((L.setIfInBounds 8 true).getD 8 false = true) := Lib.hid (set_done hi)
                rw [e32]
                have HW := Lib.hid hw
                clear e32 hy hb hu9 hd' h8 hw
                go_simp
                refine HK.out _ (put4 w' P8 (m : Int) (.slice a9 k9 c9)) ⟨sv x 32 (polyE (m : Int) (.slice a9 k9 c9)), rfl, .inr (.inr ⟨L78.out, _, wa, HB.out, HU.out, by rw [HW.out]⟩)⟩
            · have l7' := hcl 8 _ rfl l8' ⟨7, .chain⟩ (by simp) rfl
              have l6' := hcl 7 _ rfl l7' ⟨6, .chain⟩ (by simp) rfl
              have l0' := hcl 7 _ rfl l7' ⟨0, .data⟩ (by simp) rfl
              have l5' := hcl 6 _ rfl l6' ⟨5, .data⟩ (by simp) rfl
              have l2' := hcl 6 _ rfl l6' ⟨2, .data⟩ (by simp) rfl
              have l1' := hcl 2 _ rfl l2' ⟨1, .data⟩ (by simp) rfl
              have l3' := hcl 5 _ rfl l5' ⟨3, .data⟩ (by simp) rfl
              have l4' := hcl 5 _ rfl l5' ⟨4, .data⟩ (by simp) rfl
              have hcs : i = 0 ∨ i = 1 ∨ i = 2 ∨ i = 3 ∨ i = 4 ∨ i = 5 ∨ i = 6 ∨ i = 7 ∨ i = 8 := by omega
              rcases hcs with rfl | rfl | rfl | rfl | rfl | rfl | rfl | rfl | rfl
              · exact (not_done hi l0').elim
              · exact (not_done hi l1').elim
              · exact (not_done hi l2').elim
              · exact (not_done hi l3').elim
              · exact (not_done hi l4').elim
              · exact (not_done hi l5').elim
              · exact (not_done hi l6').elim
              · exact (not_done hi l7').elim
              · exact (not_done hi l8').elim
          · intro L a' w' hall hI
            obtain ⟨x, rfl, ⟨n7, _⟩ | ⟨_, n8, _⟩ | ⟨_, u9, wa, hb, hu9, rfl⟩⟩ := hI.open
            · exact (not_done n7 (hall 7 (by decide))).elim
            · exact (not_done n8 (hall 8 (by decide))).elim
            · exact HKC.out _ _ ⟨u9, x, wa, rfl, hb, hu9, rfl⟩
        · rintro _ _ ⟨u9, x, wa, rfl, hb, hu9, rfl⟩
          have hnx := (HD.out.below hb (Nat.le_refl _)).next hu9
          have HNX := Lib.hid hnx
          clear hnx hb hu9
          generalize put4 (put4 wa P7 (m : Int) (.slice a8 k8 c8)) P8 (m : Int) u9 = wn at *
          go_wp2
          go_roundw
          case rel => exact ⟨k + 1, _, _, by omega, by go_num, HNX.out⟩
          case measure => simp [intOf]; omega
      · obtain rfl : n = k := by omega
        have HD := Lib.hid hd
        clear hd
        go_wp2_with fail
        refine bodyPost_ret (v := polyE (m : Int) (.slice a7 k7 c7)) (by simp [results, Tryz.results110, go_sem, r0, r1, r2, r3]) rfl ⟨_, rfl, ?_, ?_⟩
        · exact HD.out.p7.over' HD.out.hr (fun k hk => put4_other _ _ _ _ _ hk) (put4_size _ _ _ _)
        · have hb := HD.out.bel
          (repeat' (first | (with_reducible assumption) | (with_reducible exact Below.refl _ _) | (with_reducible refine below_drewN ?_ _) | (with_reducible refine Below.drew ?_) | (with_reducible refine Below.alloc ?_ ?_ _) | (with_reducible refine Below.setCell ?_ ?_ _) | (with_reducible refine Below.trans ?_ (Below.mono (by assumption) ?_)) | (with_reducible exact Nat.le_refl _) | (with_reducible assumption) | omega | (simp; omega) | (simp; done)))
end Go.Proofs.YtapglncgicfjnabGreat
