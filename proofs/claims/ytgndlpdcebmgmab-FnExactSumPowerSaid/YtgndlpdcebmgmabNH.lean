/- Dickson's polynomials of the program: impl.element.dickson, by a contract. -/
import Derived.Test.YtgndlpdcebmgmabNE
import Derived.Test.YtgndlpdcebmgmabNG
namespace Go.Proofs.Ytgndlpdcebmgmab
open Go.RowKit
theorem put4_heapQ {w : World} {b : Nat} {x0 x1 x2 x3 : Value} (q : Int) (v : Value) (h : w.heap[b]? = some (.cells #[x0, x1, x2, x3] 55 (0, 0))) : (put4 w b q v).heap[b]? = some (pblk q v) := by
  have h0 := heap_setCell_same w b 0 _ _ (.int .i64 q) h
  have h1 := heap_setCell_same _ b 1 _ _ (.int .i64 (pr q)) h0
  have h2 := heap_setCell_same _ b 2 _ _ (.int .i64 (pl q)) h1
  have h3 := heap_setCell_same _ b 3 _ _ v h2
  simpa using h3
theorem IsP.over {w w' : World} {P : Nat} {v u : Value} {m : Nat} {t : Nat → Int} (h : IsP w v m t) (hP : w.heap[P]? = some (pblk (m : Int) u)) (hu : ∃ a n c, u = .slice a n c) (hw : ∀ k, k ≠ P → w'.heap[k]? = w.heap[k]?) (hs : w'.heap.size = w.heap.size) : IsP w' v m t := by
  obtain ⟨g, k, cap, f, rfl, hg, he, ht⟩ := h
  refine ⟨g, k, cap, f, rfl, by omega, ?_, ht⟩
  by_cases h0 : k = 0
  · subst h0
    exact fun j hj => by omega
  · refine he.same (hw g fun e => ?_)
    subst e
    obtain ⟨a, n, c, rfl⟩ := hu
    have h1 := (he 0 (by omega)).2.2.2.1
    rw [(cells4 hP).2.2.2.1] at h1
    simp at h1
/-- The memory of dickson between two rounds. -/
structure DK (w0 wr : World) (m : Nat) (s : Int) (B6 P7 P8 : Nat) (v7 v8 : Value) (t7 t8 : Nat → Int) : Prop where
  hr : wr.heap[w0.heap.size + 1]? = some pzblk
  h6 : wr.heap[B6]? = some (eblk (m : Int) s)
  h7 : wr.heap[P7]? = some (pblk (m : Int) v7)
  h8 : wr.heap[P8]? = some (pblk (m : Int) v8)
  p7 : IsP wr v7 m t7
  p8 : IsP wr v8 m t8
  bel : Below w0.heap.size w0 wr
  l6 : w0.heap.size + 1 < B6
  l7 : w0.heap.size + 1 < P7
  l8 : w0.heap.size + 1 < P8
  n67 : B6 ≠ P7
  n68 : B6 ≠ P8
  n78 : P7 ≠ P8
theorem DK.below {w0 wr w' : World} {m : Nat} {s : Int} {B6 P7 P8 B : Nat} {v7 v8 : Value} {t7 t8 : Nat → Int} (h : DK w0 wr m s B6 P7 P8 v7 v8 t7 t8) (hb : Below B wr w') (hB : wr.heap.size ≤ B) : DK w0 w' m s B6 P7 P8 v7 v8 t7 t8 := by
  have a6 := (Array.getElem?_eq_some_iff.1 h.h6).1
  have a7 := (Array.getElem?_eq_some_iff.1 h.h7).1
  have a8 := (Array.getElem?_eq_some_iff.1 h.h8).1
  have ar := (Array.getElem?_eq_some_iff.1 h.hr).1
  have hz := h.bel.size
  exact ⟨(hb.block _ (by omega)).trans h.hr, (hb.block _ (by omega)).trans h.h6, (hb.block _ (by omega)).trans h.h7, (hb.block _ (by omega)).trans h.h8, h.p7.below hb hB, h.p8.below hb hB, h.bel.trans (hb.mono (by omega)), h.l6, h.l7, h.l8, h.n67, h.n68, h.n78⟩
theorem put4_size (w : World) (b : Nat) (q : Int) (v : Value) : (put4 w b q v).heap.size = w.heap.size := by simp [put4]
/-- The two stores of a round. -/
theorem DK.next {w0 wr : World} {m : Nat} {s : Int} {B6 P7 P8 : Nat} {v7 v8 v' : Value} {t7 t8 t' : Nat → Int} (h : DK w0 wr m s B6 P7 P8 v7 v8 t7 t8) (h' : IsP wr v' m t') : DK w0 (put4 (put4 wr P7 (m : Int) v8) P8 (m : Int) v') m s B6 P7 P8 v8 v' t8 t' := by
  have s7 : ∃ a n c, v7 = .slice a n c := h.p7.slice
  have s8 : ∃ a n c, v8 = .slice a n c := h.p8.slice
  have l6 := h.l6
  have l7 := h.l7
  have l8 := h.l8
  have e7 : (put4 wr P7 (m : Int) v8).heap[P7]? = some (pblk (m : Int) v8) := put4_heapQ _ _ h.h7
  have e8 : (put4 wr P7 (m : Int) v8).heap[P8]? = some (pblk (m : Int) v8) := (put4_other _ _ _ _ _ (Ne.symm h.n78)).trans h.h8
  refine ⟨?_, ?_, ?_, put4_heapQ _ _ e8, ?_, ?_, ?_, h.l6, h.l7, h.l8, h.n67, h.n68, h.n78⟩
  · exact (put4_other _ _ _ _ _ (by omega)).trans ((put4_other _ _ _ _ _ (by omega)).trans h.hr)
  · exact (put4_other _ _ _ _ _ h.n68).trans ((put4_other _ _ _ _ _ h.n67).trans h.h6)
  · exact (put4_other _ _ _ _ _ h.n78).trans e7
  · exact (h.p8.over h.h7 s7 (fun k hk => put4_other _ _ _ _ _ hk) (put4_size _ _ _ _)).over e8 s8 (fun k hk => put4_other _ _ _ _ _ hk) (put4_size _ _ _ _)
  · exact (h'.over h.h7 s7 (fun k hk => put4_other _ _ _ _ _ hk) (put4_size _ _ _ _)).over e8 s8 (fun k hk => put4_other _ _ _ _ _ hk) (put4_size _ _ _ _)
  · exact put4_below (put4_below h.bel _ (by omega) _ _) _ (by omega) _ _
/-- What each operation of the first assignment leaves. -/
def DF (m : Nat) (c : Int) (t0 t1 : Nat → Int) (lo : Nat) : Nat → Value → World → Prop
  | 2, v, _ => v = elE (m : Int) 1
  | 4, v, _ => v = elE (m : Int) 1
  | 5, v, _ => v = elE (m : Int) c
  | 6, v, w => ∃ B, v = .slice (some ⟨B, 0, none⟩) 1 1 ∧ w.heap[B]? = some (eblk (m : Int) c)
  | 7, v, w => ∃ u, v = polyE (m : Int) u ∧ IsP w u m t0
  | 9, v, w => ∃ u, v = polyE (m : Int) u ∧ IsP w u m t1
  | 10, v, w => ∃ P, v = .pointer (some ⟨P, 0, none⟩) ∧ lo ≤ P ∧ w.heap[P]? = some pzblk
  | 11, v, w => ∃ P, v = .pointer (some ⟨P, 0, none⟩) ∧ lo ≤ P ∧ w.heap[P]? = some pzblk
  | _, v, _ => v = fdE (m : Int)
theorem keep_blk {w w' : World} {B : Nat} {o : Obj} (hb : Below w.heap.size w w') (h : w.heap[B]? = some o) : w'.heap[B]? = some o := (hb.block B (Array.getElem?_eq_some_iff.1 h).1).trans h
theorem DF_mono {m : Nat} {c : Int} {t0 t1 : Nat → Int} {lo : Nat} {w w' : World} (hb : Below w.heap.size w w') (j : Nat) (v : Value) (h : DF m c t0 t1 lo j v w) : DF m c t0 t1 lo j v w' := by
  unfold DF at h ⊢
  split at h
  · exact h
  · exact h
  · exact h
  · obtain ⟨B, e, hB⟩ := h
    exact ⟨B, e, keep_blk hb hB⟩
  · obtain ⟨u, e, hu⟩ := h
    exact ⟨u, e, hu.below hb (Nat.le_refl _)⟩
  · obtain ⟨u, e, hu⟩ := h
    exact ⟨u, e, hu.below hb (Nat.le_refl _)⟩
  · obtain ⟨P, e, hl, hP⟩ := h
    exact ⟨P, e, hl, keep_blk hb hP⟩
  · obtain ⟨P, e, hl, hP⟩ := h
    exact ⟨P, e, hl, keep_blk hb hP⟩
  · exact h
/-- The slots of its operations. -/
def dsl : Nat → Nat
  | 0 => 13 | 1 => 14 | 2 => 15 | 3 => 16 | 4 => 17 | 5 => 18 | 6 => 19 | 7 => 20 | 8 => 21 | 9 => 22 | 10 => 7 | _ => 8
theorem dsl_ne (i : Nat) (hi : i < 12) : ∀ j, j < 12 → j ≠ i → dsl j ≠ dsl i := by
  have : (List.range 12).all (fun i => (List.range 12).all fun j => decide (j ≠ i → dsl j ≠ dsl i)) = true := by decide
  intro j hj
  exact of_decide_eq_true (List.all_eq_true.1 (List.all_eq_true.1 this i (List.mem_range.2 hi)) j (List.mem_range.2 hj))
/-- Ahead of the two stores. -/
structure D1 (m : Nat) (c : Int) (t0 t1 : Nat → Int) (lo : Nat) (L : Array Bool) (x : Nat → Value) (w : World) : Prop where
  n12 : L.getD 12 true = false
  n13 : L.getD 13 true = false
  ph : Ph 12 dsl (DF m c t0 t1 lo) L x w
  ne : L.getD 10 false = true → L.getD 11 false = true → x 7 ≠ x 8
  e89 : L.getD 9 false = true → L.getD 8 false = true
theorem D1.next {m i : Nat} {c : Int} {t0 t1 : Nat → Int} {lo : Nat} {L : Array Bool} {x x' : Nat → Value} {w w' : World} (h : D1 m c t0 t1 lo L x w) (hi : i < 10) (hb : Below w.heap.size w w') (hx : ∀ k, k ≠ dsl i → x' k = x k) (hf : DF m c t0 t1 lo i (x' (dsl i)) w') (h9 : i = 9 → L.getD 8 false = true := by intro h; cases h) : D1 m c t0 t1 lo (L.setIfInBounds i true) x' w' := by
  refine ⟨by rw [getD_set_ne true (by omega)]; exact h.n12, by rw [getD_set_ne true (by omega)]; exact h.n13, h.ph.step (DF_mono hb) (dsl_ne i (by omega)) hx hf, ?_, fun h9' => ?_⟩
  rotate_left
  · refine getD_set_true ?_
    by_cases e : i = 9
    · exact h9 e
    · rw [getD_set_ne false e] at h9'
      exact h.e89 h9'
  rw [getD_set_ne false (by omega), getD_set_ne false (by omega)]
  have h1 : 7 ≠ dsl i := dsl_ne i (by omega) 10 (by omega) (by omega)
  have h2 : 8 ≠ dsl i := dsl_ne i (by omega) 11 (by omega) (by omega)
  rw [hx 7 h1, hx 8 h2]
  exact h.ne
theorem D1.al10 {m : Nat} {c : Int} {t0 t1 : Nat → Int} {lo : Nat} {L : Array Bool} {x x' : Nat → Value} {w : World} (h : D1 m c t0 t1 lo L x w) (hlo : lo ≤ w.heap.size) (hx : ∀ k, k ≠ 7 → x' k = x k) (he : x' 7 = .pointer (some ⟨w.heap.size, 0, none⟩)) : D1 m c t0 t1 lo (L.setIfInBounds 10 true) x' (w.alloc pzblk) := by
  refine ⟨by rw [getD_set_ne true (by omega)]; exact h.n12, by rw [getD_set_ne true (by omega)]; exact h.n13, h.ph.step (DF_mono ((Below.refl _ _).alloc (Nat.le_refl _) _)) (dsl_ne 10 (by omega)) hx ⟨_, he, hlo, heap_alloc_new _ _⟩, ?_, fun h9 => by rw [getD_set_ne false (by omega)] at h9 ⊢; exact h.e89 h9⟩
  rw [getD_set_ne (j := 11) false (by omega)]
  intro _ h11
  obtain ⟨P, e, _, hP⟩ := h.ph 11 (by omega) h11
  rw [he, hx 8 (by omega), show x 8 = _ from e]
  intro hc
  simp only [Value.pointer.injEq, Option.some.injEq, Addr.mk.injEq] at hc
  have := (Array.getElem?_eq_some_iff.1 hP).1
  omega
theorem D1.al11 {m : Nat} {c : Int} {t0 t1 : Nat → Int} {lo : Nat} {L : Array Bool} {x x' : Nat → Value} {w : World} (h : D1 m c t0 t1 lo L x w) (hlo : lo ≤ w.heap.size) (hx : ∀ k, k ≠ 8 → x' k = x k) (he : x' 8 = .pointer (some ⟨w.heap.size, 0, none⟩)) : D1 m c t0 t1 lo (L.setIfInBounds 11 true) x' (w.alloc pzblk) := by
  refine ⟨by rw [getD_set_ne true (by omega)]; exact h.n12, by rw [getD_set_ne true (by omega)]; exact h.n13, h.ph.step (DF_mono ((Below.refl _ _).alloc (Nat.le_refl _) _)) (dsl_ne 11 (by omega)) hx ⟨_, he, hlo, heap_alloc_new _ _⟩, ?_, fun h9 => by rw [getD_set_ne false (by omega)] at h9 ⊢; exact h.e89 h9⟩
  rw [getD_set_ne (j := 10) false (by omega)]
  intro h10 _
  obtain ⟨P, e, _, hP⟩ := h.ph 10 (by omega) h10
  rw [he, hx 7 (by omega), show x 7 = _ from e]
  intro hc
  simp only [Value.pointer.injEq, Option.some.injEq, Addr.mk.injEq] at hc
  have := (Array.getElem?_eq_some_iff.1 hP).1
  omega
/-- Between the two stores (z: not yet the second), and behind them. -/
def D2 (m : Nat) (t0 t1 : Nat → Int) (lo : Nat) (x : Nat → Value) (w : World) (z : Bool) : Prop := ∃ P7 P8 v7 v8, x 7 = .pointer (some ⟨P7, 0, none⟩) ∧ x 8 = .pointer (some ⟨P8, 0, none⟩) ∧ x 22 = polyE (m : Int) v8 ∧ lo ≤ P7 ∧ lo ≤ P8 ∧ P7 ≠ P8 ∧
  w.heap[P7]? = some (pblk (m : Int) v7) ∧ w.heap[P8]? = some (if z then pzblk else pblk (m : Int) v8) ∧ IsP w v7 m t0 ∧ IsP w v8 m t1
/-- The state of the first assignment. -/
def DI (A : (Nat → Value) → Act) (W0 : World) (m : Nat) (c : Int) (t0 t1 : Nat → Int) (L : Array Bool) (a : Act) (w : World) : Prop := ∃ x, a = A x ∧ Below W0.heap.size W0 w ∧
  (D1 m c t0 t1 W0.heap.size L x w ∨ ((∀ j, j < 13 → L.getD j false = true) ∧ L.getD 13 true = false ∧ D2 m t0 t1 W0.heap.size x w true) ∨ ((∀ j, j < 14 → L.getD j false = true) ∧ D2 m t0 t1 W0.heap.size x w false))
theorem DI.early {A : (Nat → Value) → Act} {W0 w : World} {m i : Nat} {c : Int} {t0 t1 : Nat → Int} {L : Array Bool} {a : Act} (h : DI A W0 m c t0 t1 L a w) (hi : i < 13) (hL : L.getD i true = false) : ∃ x, a = A x ∧ Below W0.heap.size W0 w ∧ D1 m c t0 t1 W0.heap.size L x w := by
  obtain ⟨x, rfl, hb, h1 | ⟨h2, _⟩ | ⟨h2, _⟩⟩ := h
  · exact ⟨x, rfl, hb, h1⟩
  · exact (not_done hL (h2 i hi)).elim
  · exact (not_done hL (h2 i (by omega))).elim
theorem DI.open {A : (Nat → Value) → Act} {W0 w : World} {m : Nat} {c : Int} {t0 t1 : Nat → Int} {L : Array Bool} {a : Act} (h : DI A W0 m c t0 t1 L a w) : ∃ x, a = A x ∧ Below W0.heap.size W0 w ∧ (D1 m c t0 t1 W0.heap.size L x w ∨ ((∀ j, j < 13 → L.getD j false = true) ∧ L.getD 13 true = false ∧ D2 m t0 t1 W0.heap.size x w true) ∨ ((∀ j, j < 14 → L.getD j false = true) ∧ D2 m t0 t1 W0.heap.size x w false)) := h
theorem DI.mk1 {A : (Nat → Value) → Act} {W0 w : World} {m : Nat} {c : Int} {t0 t1 : Nat → Int} {L : Array Bool} {a : Act} (x : Nat → Value) (e : a = A x) (hb : Below W0.heap.size W0 w) (h : D1 m c t0 t1 W0.heap.size L x w) : DI A W0 m c t0 t1 L a w := ⟨x, e, hb, .inl h⟩
/-- What each operation of a round's assignment leaves. -/
def EF (m : Nat) (s : Int) (v7 v8 : Value) (t7 t8 t9 : Nat → Int) : Nat → Value → World → Prop
  | 2, v, w => ∃ u, v = polyE (m : Int) u ∧ IsP w u m (fun a => mulF m (a : Int) (t8 a))
  | 3, v, _ => v = polyE (m : Int) v7
  | 4, v, _ => v = elE (m : Int) s
  | 5, v, w => ∃ u, v = polyE (m : Int) u ∧ IsP w u m (fun a => mulF m s (t7 a))
  | 6, v, w => ∃ u, v = polyE (m : Int) u ∧ IsP w u m t9
  | _, v, _ => v = polyE (m : Int) v8
theorem EF_mono {m : Nat} {s : Int} {v7 v8 : Value} {t7 t8 t9 : Nat → Int} {w w' : World} (hb : Below w.heap.size w w') (j : Nat) (v : Value) (h : EF m s v7 v8 t7 t8 t9 j v w) : EF m s v7 v8 t7 t8 t9 j v w' := by
  unfold EF at h ⊢
  split at h
  · obtain ⟨u, e, hu⟩ := h
    exact ⟨u, e, hu.below hb (Nat.le_refl _)⟩
  · exact h
  · exact h
  · obtain ⟨u, e, hu⟩ := h
    exact ⟨u, e, hu.below hb (Nat.le_refl _)⟩
  · obtain ⟨u, e, hu⟩ := h
    exact ⟨u, e, hu.below hb (Nat.le_refl _)⟩
  · exact h
def esl : Nat → Nat
  | 0 => 26 | 1 => 27 | 2 => 28 | 3 => 29 | 4 => 30 | 5 => 31 | _ => 32
theorem esl_ne (i : Nat) (hi : i < 7) : ∀ j, j < 7 → j ≠ i → esl j ≠ esl i := by
  have : (List.range 7).all (fun i => (List.range 7).all fun j => decide (j ≠ i → esl j ≠ esl i)) = true := by decide
  intro j hj
  exact of_decide_eq_true (List.all_eq_true.1 (List.all_eq_true.1 this i (List.mem_range.2 hi)) j (List.mem_range.2 hj))
/-- The state of a round's assignment. -/
def EI (A : (Nat → Value) → Act) (W0 : World) (m : Nat) (s : Int) (v7 v8 : Value) (P7 P8 : Nat) (t7 t8 t9 : Nat → Int) (L : Array Bool) (a : Act) (w : World) : Prop := ∃ x, a = A x ∧
  ((L.getD 7 true = false ∧ L.getD 8 true = false ∧ Below W0.heap.size W0 w ∧ Ph 7 esl (EF m s v7 v8 t7 t8 t9) L x w) ∨
   (L.getD 7 false = true ∧ L.getD 8 true = false ∧ ∃ u9 wa, x 32 = polyE (m : Int) u9 ∧ Below W0.heap.size W0 wa ∧ IsP wa u9 m t9 ∧ w = put4 wa P7 (m : Int) v8) ∨
   (L.getD 8 false = true ∧ ∃ u9 wa, Below W0.heap.size W0 wa ∧ IsP wa u9 m t9 ∧ w = put4 (put4 wa P7 (m : Int) v8) P8 (m : Int) u9))
theorem EI.open {A : (Nat → Value) → Act} {W0 w : World} {m : Nat} {s : Int} {v7 v8 : Value} {P7 P8 : Nat} {t7 t8 t9 : Nat → Int} {L : Array Bool} {a : Act} (h : EI A W0 m s v7 v8 P7 P8 t7 t8 t9 L a w) : ∃ x, a = A x ∧ ((L.getD 7 true = false ∧ L.getD 8 true = false ∧ Below W0.heap.size W0 w ∧ Ph 7 esl (EF m s v7 v8 t7 t8 t9) L x w) ∨
   (L.getD 7 false = true ∧ L.getD 8 true = false ∧ ∃ u9 wa, x 32 = polyE (m : Int) u9 ∧ Below W0.heap.size W0 wa ∧ IsP wa u9 m t9 ∧ w = put4 wa P7 (m : Int) v8) ∨
   (L.getD 8 false = true ∧ ∃ u9 wa, Below W0.heap.size W0 wa ∧ IsP wa u9 m t9 ∧ w = put4 (put4 wa P7 (m : Int) v8) P8 (m : Int) u9)) := h
theorem EI.mk1 {A : (Nat → Value) → Act} {W0 w : World} {m i : Nat} {s : Int} {v7 v8 : Value} {P7 P8 : Nat} {t7 t8 t9 : Nat → Int} {L : Array Bool} {a : Act} (x : Nat → Value) (e : a = A x) (hi : i < 7) (n7 : L.getD 7 true = false) (n8 : L.getD 8 true = false) (hb : Below W0.heap.size W0 w) (h : Ph 7 esl (EF m s v7 v8 t7 t8 t9) (L.setIfInBounds i true) x w) : EI A W0 m s v7 v8 P7 P8 t7 t8 t9 (L.setIfInBounds i true) a w :=
  ⟨x, e, .inl ⟨by rw [getD_set_ne true (by omega)]; exact n7, by rw [getD_set_ne true (by omega)]; exact n8, hb, h⟩⟩
/-- Over a block of a polynomial that may be 0. -/
theorem IsP.over' {w w' : World} {P : Nat} {v : Value} {m : Nat} {t : Nat → Int} (h : IsP w v m t) (hP : w.heap[P]? = some pzblk) (hw : ∀ k, k ≠ P → w'.heap[k]? = w.heap[k]?) (hs : w'.heap.size = w.heap.size) : IsP w' v m t := by
  obtain ⟨g, k, cap, f, rfl, hg, he, ht⟩ := h
  refine ⟨g, k, cap, f, rfl, by omega, ?_, ht⟩
  by_cases h0 : k = 0
  · subst h0
    exact fun j hj => by omega
  · refine he.same (hw g fun e => ?_)
    subst e
    have h1 := (he 0 (by omega)).2.2.2.1
    rw [(cells4 hP).2.2.2.1] at h1
    simp at h1
theorem region_cut' {P : Program} {c : Code} {Q : Exit → Act → World → Prop} {a : Act} {w : World} (R : Act → World → Prop) (h0 : ∀ K : Act → World → Prop, (∀ a' w', R a' w' → K a' w') → c.wp P (Exit.then K Q) a w) (h : ∀ a' w', R a' w' → Q .normal a' w') : c.wp P Q a w :=
  Code.wp_mono (fun e a' w' hr => by
    cases e with
    | normal => exact h a' w' hr
    | _ => exact hr) (h0 (fun a' w' => R a' w') fun _ _ h => h)
theorem all13 {L : Array Bool} (h : ∀ j, j < 13 → L.getD j false = true) (h13 : L.getD 13 true = false) : ∀ j, j < 14 → (L.setIfInBounds 13 true).getD j false = true := fun j hj => by
  by_cases e : j = 13
  · subst e
    simp only [Array.getD] at h13 ⊢
    split at h13
    · rename_i hl
      rw [dif_pos (by simpa using hl)]
      simp
    · cases h13
  · rw [getD_set_ne false (Ne.symm e)]
    exact h j (by omega)
theorem all12 {L : Array Bool} {E : Array Edge} (hd : ∀ e ∈ E, Region.binds .any e = true → L.getD e.on false = true) (h12 : L.getD 12 true = false) (h8 : L.getD 8 false = true) (hE : ∀ j, j < 12 → j ≠ 8 → ∃ e ∈ E, e.on = j ∧ Region.binds .any e = true) : ∀ j, j < 13 → (L.setIfInBounds 12 true).getD j false = true := fun j hj => by
  by_cases e : j = 12
  · subst e
    simp only [Array.getD] at h12 ⊢
    split at h12
    · rename_i hl
      rw [dif_pos (by simpa using hl)]
      simp
    · cases h12
  · rw [getD_set_ne false (Ne.symm e)]
    by_cases e8 : j = 8
    · subst e8; exact h8
    · obtain ⟨ed, he, rfl, hb⟩ := hE j (by omega) e8
      exact hd ed he hb
end Go.Proofs.Ytgndlpdcebmgmab
