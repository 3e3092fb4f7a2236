/- FirstRepeated, of both, by contracts; the walk of its law. -/
import Derived.Test.YtgndlpdcebmgmaaSI
import Derived.BigQuiet
import Derived.Deep.RegionHeld3
namespace Go.Proofs.Ytgndlpdcebmgmaa
open Go.RowKit
theorem region_cutJ {P : Program} {c : Code} {Q : Exit → Act → World → Prop} {a : Act} {w : World} (R : Act → World → Prop) (h0 : ∀ K : Act → World → Prop, (∀ a' w', R a' w' → K a' w') → c.wp P (Exit.then K Q) a w) (h : ∀ a' w', R a' w' → Q .normal a' w') : c.wp P Q a w :=
  Code.wp_mono (fun e a' w' hr => by
    cases e with
    | normal => exact h a' w' hr
    | _ => exact hr) (h0 (fun a' w' => R a' w') fun _ _ h => h)
theorem eq_dgj (q x y : Int) (h : isSz q = true) (hx : El q x) (hy : El q y) (w : World) :
    (Op.equalIn 9999 47 (.agg #[.int .i64 (dg q x 0), .int .i64 (dg q x 1), .int .i64 (dg q x 2), .int .i64 (dg q x 3)]) (.agg #[.int .i64 (dg q y 0), .int .i64 (dg q y 1), .int .i64 (dg q y 2), .int .i64 (dg q y 3)])).run Try.prog w = .ok (decide (x = y)) w := by
  rw [← dg_inj q x y h hx.1 hx.2 hy.1 hy.2]
  exact eq_arr 47 Try.underlying47 _ _ _ _ _ _ _ _ 9997 w
theorem pr_even {m : Nat} (h : isSz (m : Int) = true) : (pr m == 2) = decide (m % 2 = 0) := by
  have hq := isSz_two h
  have : ∀ n : Fin 17, isSz ((n.val : Nat) : Int) = true → (pr ((n.val : Nat) : Int) == 2) = decide (n.val % 2 = 0) := by decide +kernel
  exact this ⟨m, by omega⟩ h
set_option maxRecDepth 100000 in
set_option maxHeartbeats 4000000 in
/-- impl.element.joins. -/
theorem joinsE (m a x y : Nat) (w : World) (h : isSz (m : Int) = true) (ha : a < m) (hx : x < m) (hy : y < m) :
    Calls Try.prog 128 #[elE (m : Int) (a : Int), elE (m : Int) (x : Int), elE (m : Int) (y : Int)] w fun e w' => e = .returned (.bool (decide (m % 2 = 0) && decide (addF m x a = (y : Int)))) ∧ Below w.heap.size w w' := by
  have hq := isSz_two h
  have hpe := pr_even h
  have HP := Lib.hid (fun w => plusE (m : Int) (x : Int) (a : Int) w h (by omega) (by omega) (by omega) (by omega))
  have hs := El.add h (El.nat hx) (El.nat ha)
  have HEQ := Lib.hid (fun w => eq_dgj (m : Int) (addF m x a) (y : Int) h hs (El.nat hy) w)
  have HKEEP : Hid (∀ w', Below (w.heap.size + 3) (((w.alloc (eblk (m : Int) (a : Int))).alloc (eblk (m : Int) (x : Int))).alloc (eblk (m : Int) (y : Int))) w' → w'.cell? ⟨w.heap.size, 0, none⟩ = some (.int .i64 m) ∧ w'.cell? ⟨w.heap.size, 1, none⟩ = some (.int .i64 (pr m)) ∧ w'.cell? ⟨w.heap.size, 2, none⟩ = some (.int .i64 (pl m)) ∧ w'.cell? ⟨w.heap.size, 3, none⟩ = some (.int .i64 (dg m a 0)) ∧ w'.cell? ⟨w.heap.size, 4, none⟩ = some (.int .i64 (dg m a 1)) ∧ w'.cell? ⟨w.heap.size, 5, none⟩ = some (.int .i64 (dg m a 2)) ∧ w'.cell? ⟨w.heap.size, 6, none⟩ = some (.int .i64 (dg m a 3)) ∧ w'.cell? ⟨w.heap.size + 1, 0, none⟩ = some (.int .i64 m) ∧ w'.cell? ⟨w.heap.size + 1, 1, none⟩ = some (.int .i64 (pr m)) ∧ w'.cell? ⟨w.heap.size + 1, 2, none⟩ = some (.int .i64 (pl m)) ∧ w'.cell? ⟨w.heap.size + 1, 3, none⟩ = some (.int .i64 (dg m x 0)) ∧ w'.cell? ⟨w.heap.size + 1, 4, none⟩ = some (.int .i64 (dg m x 1)) ∧ w'.cell? ⟨w.heap.size + 1, 5, none⟩ = some (.int .i64 (dg m x 2)) ∧ w'.cell? ⟨w.heap.size + 1, 6, none⟩ = some (.int .i64 (dg m x 3)) ∧ w'.cell? ⟨w.heap.size + 2, 0, none⟩ = some (.int .i64 m) ∧ w'.cell? ⟨w.heap.size + 2, 1, none⟩ = some (.int .i64 (pr m)) ∧ w'.cell? ⟨w.heap.size + 2, 2, none⟩ = some (.int .i64 (pl m)) ∧ w'.cell? ⟨w.heap.size + 2, 3, none⟩ = some (.int .i64 (dg m y 0)) ∧ w'.cell? ⟨w.heap.size + 2, 4, none⟩ = some (.int .i64 (dg m y 1)) ∧ w'.cell? ⟨w.heap.size + 2, 5, none⟩ = some (.int .i64 (dg m y 2)) ∧ w'.cell? ⟨w.heap.size + 2, 6, none⟩ = some (.int .i64 (dg m y 3))) := Lib.hid fun w' hb => by
    obtain ⟨t0, t1, t2⟩ := three w (eblk (m : Int) (a : Int)) (eblk (m : Int) (x : Int)) (eblk (m : Int) (y : Int))
    obtain ⟨x0, x1, x2, x3, x4, x5, x6, _⟩ := seven ((hb.block _ (by omega)).trans t0)
    obtain ⟨y0, y1, y2, y3, y4, y5, y6, _⟩ := seven ((hb.block _ (by omega)).trans t1)
    obtain ⟨z0, z1, z2, z3, z4, z5, z6, _⟩ := seven ((hb.block _ (by omega)).trans t2)
    exact ⟨x0, x1, x2, x3, x4, x5, x6, y0, y1, y2, y3, y4, y5, y6, z0, z1, z2, z3, z4, z5, z6⟩
  clear h hs
  by_cases he : m % 2 = 0
  · rw [decide_eq_true he] at hpe ⊢
    clear he
    generalize addF m x a = S at *
    generalize hd : decide (S = (y : Int)) = d at *
    clear hd
    cases d
    all_goals
      go_enter Try.func128, Try.ntmps128
      go_wp2_with fail
      have heq0 := HEQ.out
      go_region_held3 (fun w' => w'.cell? ⟨w.heap.size, 0, none⟩ = some (.int .i64 m) ∧ w'.cell? ⟨w.heap.size, 1, none⟩ = some (.int .i64 (pr m)) ∧ w'.cell? ⟨w.heap.size, 2, none⟩ = some (.int .i64 (pl m)) ∧ w'.cell? ⟨w.heap.size, 3, none⟩ = some (.int .i64 (dg m a 0)) ∧ w'.cell? ⟨w.heap.size, 4, none⟩ = some (.int .i64 (dg m a 1)) ∧ w'.cell? ⟨w.heap.size, 5, none⟩ = some (.int .i64 (dg m a 2)) ∧ w'.cell? ⟨w.heap.size, 6, none⟩ = some (.int .i64 (dg m a 3)) ∧ w'.cell? ⟨w.heap.size + 1, 0, none⟩ = some (.int .i64 m) ∧ w'.cell? ⟨w.heap.size + 1, 1, none⟩ = some (.int .i64 (pr m)) ∧ w'.cell? ⟨w.heap.size + 1, 2, none⟩ = some (.int .i64 (pl m)) ∧ w'.cell? ⟨w.heap.size + 1, 3, none⟩ = some (.int .i64 (dg m x 0)) ∧ w'.cell? ⟨w.heap.size + 1, 4, none⟩ = some (.int .i64 (dg m x 1)) ∧ w'.cell? ⟨w.heap.size + 1, 5, none⟩ = some (.int .i64 (dg m x 2)) ∧ w'.cell? ⟨w.heap.size + 1, 6, none⟩ = some (.int .i64 (dg m x 3)) ∧ w'.cell? ⟨w.heap.size + 2, 0, none⟩ = some (.int .i64 m) ∧ w'.cell? ⟨w.heap.size + 2, 1, none⟩ = some (.int .i64 (pr m)) ∧ w'.cell? ⟨w.heap.size + 2, 2, none⟩ = some (.int .i64 (pl m)) ∧ w'.cell? ⟨w.heap.size + 2, 3, none⟩ = some (.int .i64 (dg m y 0)) ∧ w'.cell? ⟨w.heap.size + 2, 4, none⟩ = some (.int .i64 (dg m y 1)) ∧ w'.cell? ⟨w.heap.size + 2, 5, none⟩ = some (.int .i64 (dg m y 2)) ∧ w'.cell? ⟨w.heap.size + 2, 6, none⟩ = some (.int .i64 (dg m y 3)))
        (exact HKEEP.out _ (by (try have hb3 := HB3.out); (repeat' (first | (with_reducible assumption) | (with_reducible exact Below.refl _ _) | (with_reducible refine below_drewN ?_ _) | (with_reducible refine Below.drew ?_) | (with_reducible refine Below.alloc ?_ ?_ _) | (with_reducible refine Below.setCell ?_ ?_ _) | (with_reducible refine Below.trans ?_ (Below.mono (by assumption) ?_)) | (with_reducible exact Nat.le_refl _) | (with_reducible assumption) | omega | (simp; omega) | (simp; done)))))
        (first | (go_at_call 112; refine (HP.out _).mono ?_; rintro e w3 ⟨rfl, hb3⟩; obtain ⟨hc3, hf3⟩ := bcell hb3; (try simp only [World.size_drew] at hc3 hf3); have hz3 := hb3.size; (try simp at hz3); have HB3 := Lib.hid hb3; clear hb3))
      all_goals
        go_wp2
        go_ret
        have hb3 := HB3.out
        exact ⟨by first | rfl | simp, by (repeat' (first | (with_reducible assumption) | (with_reducible exact Below.refl _ _) | (with_reducible refine below_drewN ?_ _) | (with_reducible refine Below.drew ?_) | (with_reducible refine Below.alloc ?_ ?_ _) | (with_reducible refine Below.setCell ?_ ?_ _) | (with_reducible refine Below.trans ?_ (Below.mono (by assumption) ?_)) | (with_reducible exact Nat.le_refl _) | (with_reducible assumption) | omega | (simp; omega) | (simp; done)))⟩
  · rw [decide_eq_false he] at hpe ⊢
    clear he HEQ HP
    go_enter Try.func128, Try.ntmps128
    go_wp2_with fail
    go_quiet (fail)
    go_wp2
    go_ret
    exact ⟨by first | rfl | simp, by (repeat' (first | (with_reducible assumption) | (with_reducible exact Below.refl _ _) | (with_reducible refine below_drewN ?_ _) | (with_reducible refine Below.drew ?_) | (with_reducible refine Below.alloc ?_ ?_ _) | (with_reducible refine Below.setCell ?_ ?_ _) | (with_reducible refine Below.trans ?_ (Below.mono (by assumption) ?_)) | (with_reducible exact Nat.le_refl _) | (with_reducible assumption) | omega | (simp; omega) | (simp; done)))⟩
set_option maxRecDepth 100000 in
set_option maxHeartbeats 4000000 in
/-- impl.element.firstRepeated. -/
theorem elFirstE (m a g cap : Nat) (t : Nat → Int) (w : World) (h : isSz (m : Int) = true) (ha : a < m) (hg : g < w.heap.size) (he : Els w g (m : Int) t m) (ht : ∀ i, i < m → El (m : Int) (t i)) (H : Nat → Nat → Bool) (hH : ∀ x y, H x y = hit m t a x y) :
    Calls Try.prog 91 #[elE (m : Int) (a : Int), .slice (some ⟨g, 0, none⟩) m cap] w fun e w' => ((∃ x y : Nat, x < y ∧ y < m ∧ (∀ x', x' < x → ∀ y', x' < y' → y' < m → H x' y' = false) ∧ (∀ y', x < y' → y' < y → H x y' = false) ∧ H x y = true ∧ e = .returned (.tuple #[.int .i64 x, .int .i64 y, .bool true])) ∨ ((∀ x y, x < y → y < m → H x y = false) ∧ e = .returned (.tuple #[.int .i64 0, .int .i64 0, .bool false]))) ∧ Below w.heap.size w w' := by
  have hq := isSz_two h
  have HD0 := Lib.hid (fun w' (hb : Below w.heap.size w w') => differenceOfE m a g cap t w' h ha (by have := hb.size; omega) (he.below hb hg) ht)
  have HE0 := Lib.hid (fun w => elements_full (m : Int) w h)
  rw [Int.toNat_natCast] at HE0
  have hdel := dft_el h ht a ha
  have HEQ0 := Lib.hid (fun (x y : Nat) (hx : x < m) (hy : y < m) w => eq_dgj (m : Int) (dft m t a y) (dft m t a x) h (hdel y hy) (hdel x hx) w)
  have HJ0 := Lib.hid (fun (x y : Nat) (hx : x < m) (hy : y < m) w => joinsE m a x y w h ha hx hy)
  have HH : Hid (∀ x y, H x y = (decide (dft m t a y = dft m t a x) && !(decide (m % 2 = 0) && decide (addF m x a = (y : Int))))) := Lib.hid fun x y => by
    rw [hH]
    unfold hit
    congr 1
    exact decide_eq_decide.2 eq_comm
  clear h ht hH hdel
  generalize dft m t a = D at *
  obtain ⟨J, hJ⟩ : ∃ J : Nat → Nat → Bool, ∀ x y : Nat, (decide (m % 2 = 0) && decide (addF m x a = (y : Int))) = J x y := ⟨_, fun _ _ => rfl⟩
  simp only [hJ] at HJ0 HH
  clear hJ
  have HKR : Hid (∀ w', Below (w.heap.size + 1) (w.alloc (eblk (m : Int) (a : Int))) w' → w'.cell? ⟨w.heap.size, 0, none⟩ = some (.int .i64 m) ∧ w'.cell? ⟨w.heap.size, 1, none⟩ = some (.int .i64 (pr m)) ∧ w'.cell? ⟨w.heap.size, 2, none⟩ = some (.int .i64 (pl m)) ∧ w'.cell? ⟨w.heap.size, 3, none⟩ = some (.int .i64 (dg m a 0)) ∧ w'.cell? ⟨w.heap.size, 4, none⟩ = some (.int .i64 (dg m a 1)) ∧ w'.cell? ⟨w.heap.size, 5, none⟩ = some (.int .i64 (dg m a 2)) ∧ w'.cell? ⟨w.heap.size, 6, none⟩ = some (.int .i64 (dg m a 3))) := Lib.hid fun w' hb => by
    obtain ⟨x0, x1, x2, x3, x4, x5, x6, _⟩ := seven ((hb.block _ (by omega)).trans (heap_alloc_new w (eblk (m : Int) (a : Int))))
    exact ⟨x0, x1, x2, x3, x4, x5, x6⟩
  go_enter Try.func91, Try.ntmps91
  go_wp2_with fail
  refine region_cutJ (fun a' w1 => ∃ (gD gE : Nat) (u12 u13 u14 u15 u16 u17 : Value), a' = { tmps := #[elE (m : Int) (a : Int), .slice (some ⟨g, 0, none⟩) m cap, .pointer (some ⟨w.heap.size, 0, none⟩), undef, .int .i64 0, .int .i64 0, .bool false, .slice (some ⟨gD, 0, none⟩) m m, .slice (some ⟨gE, 0, none⟩) m m, undef, undef, undef, u12, u13, u14, u15, u16, u17, undef, undef, undef, undef, undef, undef, undef, undef, undef, undef, undef, undef, undef, undef, undef, undef, undef, undef, undef, undef, undef, undef, undef, undef, undef, undef, undef, undef, undef, undef, undef, undef, undef, undef, undef, undef, undef], defers := [] } ∧ gD < w1.heap.size ∧ Els w1 gD (m : Int) D m ∧ gE < w1.heap.size ∧ Els w1 gE (m : Int) (fun j => (j : Int)) m ∧ Below (w.heap.size + 1) (w.alloc (eblk (m : Int) (a : Int))) w1) ?_ ?_
  · intro KC hKC
    have HKC := Lib.hid hKC
    clear hKC
    go_region_held3 (fun w' => w'.cell? ⟨w.heap.size, 0, none⟩ = some (.int .i64 m) ∧ w'.cell? ⟨w.heap.size, 1, none⟩ = some (.int .i64 (pr m)) ∧ w'.cell? ⟨w.heap.size, 2, none⟩ = some (.int .i64 (pl m)) ∧ w'.cell? ⟨w.heap.size, 3, none⟩ = some (.int .i64 (dg m a 0)) ∧ w'.cell? ⟨w.heap.size, 4, none⟩ = some (.int .i64 (dg m a 1)) ∧ w'.cell? ⟨w.heap.size, 5, none⟩ = some (.int .i64 (dg m a 2)) ∧ w'.cell? ⟨w.heap.size, 6, none⟩ = some (.int .i64 (dg m a 3)))
      (exact HKR.out _ (by (try have hb3 := HB3.out); (try have hb4 := HB4.out); (repeat' (first | (with_reducible assumption) | (with_reducible exact Below.refl _ _) | (with_reducible refine below_drewN ?_ _) | (with_reducible refine Below.drew ?_) | (with_reducible refine Below.alloc ?_ ?_ _) | (with_reducible refine Below.setCell ?_ ?_ _) | (with_reducible refine Below.trans ?_ (Below.mono (by assumption) ?_)) | (with_reducible exact Nat.le_refl _) | (with_reducible assumption) | omega | (simp; omega) | (simp; done)))))
      (first
      | (go_at_call 70; refine (HD0.out _ (by (try have hb4 := HB4.out); (repeat' (first | (with_reducible assumption) | (with_reducible exact Below.refl _ _) | (with_reducible refine below_drewN ?_ _) | (with_reducible refine Below.drew ?_) | (with_reducible refine Below.alloc ?_ ?_ _) | (with_reducible refine Below.setCell ?_ ?_ _) | (with_reducible refine Below.trans ?_ (Below.mono (by assumption) ?_)) | (with_reducible exact Nat.le_refl _) | (with_reducible assumption) | omega | (simp; omega) | (simp; done))))).mono ?_; rintro e w3 ⟨g3, rfl, hg3, hk3, he3, hb3⟩; have hgl3 := hk3.lt; have HE3 := Lib.hid he3; clear he3 hk3; obtain ⟨hc3, hf3⟩ := bcell hb3; (try simp only [World.size_drew] at hc3 hf3); have hz3 := hb3.size; (try simp at hz3); have HB3 := Lib.hid hb3; clear hb3)
      | (go_at_call 75; refine (HE0.out _).mono ?_; rintro e w4 ⟨g4, rfl, hg4, hk4, he4, hb4⟩; have hgl4 := hk4.lt; have HE4 := Lib.hid he4; clear he4 hk4; obtain ⟨hc4, hf4⟩ := bcell hb4; (try simp only [World.size_drew] at hc4 hf4); have hz4 := hb4.size; (try simp at hz4); have HB4 := Lib.hid hb4; clear hb4))
    all_goals
      have hb3 := HB3.out
      have hb4 := HB4.out
      refine HKC.out _ _ ?_
      (try simp only [Act.put, List.setIfInBounds_toArray, List.set_cons_zero, List.set_cons_succ])
      refine ⟨g3, g4, _, _, _, _, _, _, rfl, ?_, ?_, ?_, ?_, ?_⟩
      · first | exact hgl3 | (have := hb4.size; (try simp at this); omega) | (simp; omega)
      · first | exact HE3.out | exact HE3.out.below hb4 (by first | omega | (simp; omega)) | exact HE3.out.below (B := w3.heap.size) (by (repeat' (first | (with_reducible assumption) | (with_reducible exact Below.refl _ _) | (with_reducible refine below_drewN ?_ _) | (with_reducible refine Below.drew ?_) | (with_reducible refine Below.alloc ?_ ?_ _) | (with_reducible refine Below.setCell ?_ ?_ _) | (with_reducible refine Below.trans ?_ (Below.mono (by assumption) ?_)) | (with_reducible exact Nat.le_refl _) | (with_reducible assumption) | omega | (simp; omega) | (simp; done)))) hgl3
      · first | exact hgl4 | (have := hb3.size; (try simp at this); omega) | (simp; omega)
      · first | exact HE4.out | exact HE4.out.below hb3 (by first | omega | (simp; omega)) | exact HE4.out.below (B := w4.heap.size) (by (repeat' (first | (with_reducible assumption) | (with_reducible exact Below.refl _ _) | (with_reducible refine below_drewN ?_ _) | (with_reducible refine Below.drew ?_) | (with_reducible refine Below.alloc ?_ ?_ _) | (with_reducible refine Below.setCell ?_ ?_ _) | (with_reducible refine Below.trans ?_ (Below.mono (by assumption) ?_)) | (with_reducible exact Nat.le_refl _) | (with_reducible assumption) | omega | (simp; omega) | (simp; done)))) hgl4
      · (repeat' (first | (with_reducible assumption) | (with_reducible exact Below.refl _ _) | (with_reducible refine below_drewN ?_ _) | (with_reducible refine Below.drew ?_) | (with_reducible refine Below.alloc ?_ ?_ _) | (with_reducible refine Below.setCell ?_ ?_ _) | (with_reducible refine Below.trans ?_ (Below.mono (by assumption) ?_)) | (with_reducible exact Nat.le_refl _) | (with_reducible assumption) | omega | (simp; omega) | (simp; done)))
  · rintro a' w1 ⟨gD, gE, u12, u13, u14, u15, u16, u17, rfl, hgD, hD, hgE, hE, hb1⟩
    have HD1 := Lib.hid hD
    have HE1 := Lib.hid hE
    have HB1 := Lib.hid hb1
    have HBW : Hid (Below w.heap.size w w1) := Lib.hid (by (repeat' (first | (with_reducible assumption) | (with_reducible exact Below.refl _ _) | (with_reducible refine below_drewN ?_ _) | (with_reducible refine Below.drew ?_) | (with_reducible refine Below.alloc ?_ ?_ _) | (with_reducible refine Below.setCell ?_ ?_ _) | (with_reducible refine Below.trans ?_ (Below.mono (by assumption) ?_)) | (with_reducible exact Nat.le_refl _) | (with_reducible assumption) | omega | (simp; omega) | (simp; done))))
    have hz1 := hb1.size
    simp at hz1
    clear hD hE hb1 he HD0 HE0
    go_wp2_with fail
    go_loopw [20] (fun vi wr => ∃ x : Nat, x ≤ m ∧ vi = .int .i64 x ∧ (∀ x', x' < x → ∀ y', x' < y' → y' < m → H x' y' = false) ∧ Below w1.heap.size w1 wr) (fun vi _ => m - (intOf vi).toNat)
    case atStart => exact ⟨0, Nat.zero_le _, rfl, fun x' hx' => absurd hx' (Nat.not_lt_zero _), Below.refl _ _⟩
    case round =>
      obtain ⟨x, hx, rfl, hno, hbw⟩ := hrel
      have HNO := Lib.hid hno
      have HBR := Lib.hid hbw
      have hzr := hbw.size
      clear hno hbw
      by_cases hlt : x < m
      · obtain ⟨c0, c1, c2, c3, c4, c5, c6⟩ := (HD1.out.below HBR.out hgD) x hlt
        have HXX : Hid (∃ X, D x = X) := Lib.hid ⟨_, rfl⟩
        have HEQX := Lib.hid (fun y (hy : y < m) w => HEQ0.out x y hlt hy w)
        have HHX := Lib.hid (fun y => HH.out x y)
        have HJX := Lib.hid (fun y (hy : y < m) w => HJ0.out x y hlt hy w)
        have hgDr : gD < wr.heap.size := by omega
        have hgEr : gE < wr.heap.size := by omega
        generalize D x = X at *
        clear HXX
        obtain ⟨P, hP⟩ : ∃ P, P = wr.heap.size := ⟨_, rfl⟩
        obtain ⟨wo, hwo⟩ : ∃ wo, wo = wr.alloc (eblk (m : Int) X) := ⟨_, rfl⟩
        have HKI : Hid (∀ w', Below (P + 1) wo w' → ∀ y, y < m → w'.cell? ⟨w.heap.size, 0, none⟩ = some (.int .i64 m) ∧ w'.cell? ⟨w.heap.size, 1, none⟩ = some (.int .i64 (pr m)) ∧ w'.cell? ⟨w.heap.size, 2, none⟩ = some (.int .i64 (pl m)) ∧ w'.cell? ⟨w.heap.size, 3, none⟩ = some (.int .i64 (dg m a 0)) ∧ w'.cell? ⟨w.heap.size, 4, none⟩ = some (.int .i64 (dg m a 1)) ∧ w'.cell? ⟨w.heap.size, 5, none⟩ = some (.int .i64 (dg m a 2)) ∧ w'.cell? ⟨w.heap.size, 6, none⟩ = some (.int .i64 (dg m a 3)) ∧ w'.cell? ⟨P, 0, none⟩ = some (.int .i64 m) ∧ w'.cell? ⟨P, 1, none⟩ = some (.int .i64 (pr m)) ∧ w'.cell? ⟨P, 2, none⟩ = some (.int .i64 (pl m)) ∧ w'.cell? ⟨P, 3, none⟩ = some (.int .i64 (dg m X 0)) ∧ w'.cell? ⟨P, 4, none⟩ = some (.int .i64 (dg m X 1)) ∧ w'.cell? ⟨P, 5, none⟩ = some (.int .i64 (dg m X 2)) ∧ w'.cell? ⟨P, 6, none⟩ = some (.int .i64 (dg m X 3)) ∧ w'.cell? ⟨gD, y * 7, none⟩ = some (.int .i64 m) ∧ w'.cell? ⟨gD, y * 7 + 1, none⟩ = some (.int .i64 (pr m)) ∧ w'.cell? ⟨gD, y * 7 + 2, none⟩ = some (.int .i64 (pl m)) ∧ w'.cell? ⟨gD, y * 7 + 3, none⟩ = some (.int .i64 (dg m (D y) 0)) ∧ w'.cell? ⟨gD, y * 7 + 4, none⟩ = some (.int .i64 (dg m (D y) 1)) ∧ w'.cell? ⟨gD, y * 7 + 5, none⟩ = some (.int .i64 (dg m (D y) 2)) ∧ w'.cell? ⟨gD, y * 7 + 6, none⟩ = some (.int .i64 (dg m (D y) 3)) ∧ w'.cell? ⟨gE, x * 7, none⟩ = some (.int .i64 m) ∧ w'.cell? ⟨gE, x * 7 + 1, none⟩ = some (.int .i64 (pr m)) ∧ w'.cell? ⟨gE, x * 7 + 2, none⟩ = some (.int .i64 (pl m)) ∧ w'.cell? ⟨gE, x * 7 + 3, none⟩ = some (.int .i64 (dg m x 0)) ∧ w'.cell? ⟨gE, x * 7 + 4, none⟩ = some (.int .i64 (dg m x 1)) ∧ w'.cell? ⟨gE, x * 7 + 5, none⟩ = some (.int .i64 (dg m x 2)) ∧ w'.cell? ⟨gE, x * 7 + 6, none⟩ = some (.int .i64 (dg m x 3)) ∧ w'.cell? ⟨gE, y * 7, none⟩ = some (.int .i64 m) ∧ w'.cell? ⟨gE, y * 7 + 1, none⟩ = some (.int .i64 (pr m)) ∧ w'.cell? ⟨gE, y * 7 + 2, none⟩ = some (.int .i64 (pl m)) ∧ w'.cell? ⟨gE, y * 7 + 3, none⟩ = some (.int .i64 (dg m y 0)) ∧ w'.cell? ⟨gE, y * 7 + 4, none⟩ = some (.int .i64 (dg m y 1)) ∧ w'.cell? ⟨gE, y * 7 + 5, none⟩ = some (.int .i64 (dg m y 2)) ∧ w'.cell? ⟨gE, y * 7 + 6, none⟩ = some (.int .i64 (dg m y 3))) := Lib.hid fun w' hb y hy => by
          subst hP
          subst hwo
          have hbw : Below wr.heap.size wr w' := by (repeat' (first | (with_reducible assumption) | (with_reducible exact Below.refl _ _) | (with_reducible refine below_drewN ?_ _) | (with_reducible refine Below.drew ?_) | (with_reducible refine Below.alloc ?_ ?_ _) | (with_reducible refine Below.setCell ?_ ?_ _) | (with_reducible refine Below.trans ?_ (Below.mono (by assumption) ?_)) | (with_reducible exact Nat.le_refl _) | (with_reducible assumption) | omega | (simp; omega) | (simp; done)))
          have hb1w : Below w1.heap.size w1 w' := HBR.out.trans (hbw.mono hzr)
          obtain ⟨x0, x1, x2, x3, x4, x5, x6⟩ := HKR.out w' (HB1.out.trans (hb1w.mono (by first | omega | (simp; omega))))
          obtain ⟨p0, p1, p2, p3, p4, p5, p6, _⟩ := seven ((hb.block _ (by omega)).trans (heap_alloc_new wr (eblk (m : Int) X)))
          obtain ⟨d0, d1, d2, d3, d4, d5, d6⟩ := (HD1.out.below hb1w hgD) y hy
          obtain ⟨e0, e1, e2, e3, e4, e5, e6⟩ := (HE1.out.below hb1w hgE) x hlt
          obtain ⟨f0, f1, f2, f3, f4, f5, f6⟩ := (HE1.out.below hb1w hgE) y hy
          exact ⟨x0, x1, x2, x3, x4, x5, x6, p0, p1, p2, p3, p4, p5, p6, d0, d1, d2, d3, d4, d5, d6, e0, e1, e2, e3, e4, e5, e6, f0, f1, f2, f3, f4, f5, f6⟩
        have HPw : Hid (P = wr.heap.size ∧ wo = wr.alloc (eblk (m : Int) X)) := Lib.hid ⟨hP, hwo⟩
        have HBO : Hid (∀ w', Below (P + 1) wo w' → Below w1.heap.size w1 w' ∧ Below w.heap.size w w') := Lib.hid fun w' hb => by
          subst hP
          subst hwo
          have hbw : Below wr.heap.size wr w' := by (repeat' (first | (with_reducible assumption) | (with_reducible exact Below.refl _ _) | (with_reducible refine below_drewN ?_ _) | (with_reducible refine Below.drew ?_) | (with_reducible refine Below.alloc ?_ ?_ _) | (with_reducible refine Below.setCell ?_ ?_ _) | (with_reducible refine Below.trans ?_ (Below.mono (by assumption) ?_)) | (with_reducible exact Nat.le_refl _) | (with_reducible assumption) | omega | (simp; omega) | (simp; done)))
          have h1 := HBR.out.trans (hbw.mono hzr)
          exact ⟨h1, HBW.out.trans (h1.mono (by omega))⟩
        have HWZ : Hid (wo.heap.size = P + 1) := Lib.hid (by rw [hwo, hP]; simp)
        have HO0 : Hid (Below (P + 1) wo (wr.alloc (eblk (m : Int) X))) := Lib.hid (by rw [hwo]; exact Below.refl _ _)
        rw [← hP] at hgDr hgEr
        clear hwo
        go_wp2_with fail
        rw [← hP]
        clear hP c0 c1 c2 c3 c4 c5 c6
        go_loopw [11] (fun vy ws => ∃ y : Nat, x + 1 ≤ y ∧ y ≤ m ∧ vy = .int .i64 y ∧ (∀ y', x < y' → y' < y → H x y' = false) ∧ Below (P + 1) wo ws) (fun vy _ => m - (intOf vy).toNat)
        case atStart => exact ⟨x + 1, Nat.le_refl _, by omega, by go_num, fun y' h1 h2 => by omega, HO0.out⟩
        case round =>
          obtain ⟨y, hxy, hym, rfl, hny, hbs⟩ := hrel
          have HNY := Lib.hid hny
          have HBS := Lib.hid hbs
          have hzs0 := hbs.size
          have hzs : P + 1 ≤ wr.heap.size := by have := HWZ.out; omega
          clear hny hbs hzs0
          by_cases hly : y < m
          · have HKEEP : Hid (∀ w', Below wr.heap.size wr w' → w'.cell? ⟨w.heap.size, 0, none⟩ = some (.int .i64 m) ∧ w'.cell? ⟨w.heap.size, 1, none⟩ = some (.int .i64 (pr m)) ∧ w'.cell? ⟨w.heap.size, 2, none⟩ = some (.int .i64 (pl m)) ∧ w'.cell? ⟨w.heap.size, 3, none⟩ = some (.int .i64 (dg m a 0)) ∧ w'.cell? ⟨w.heap.size, 4, none⟩ = some (.int .i64 (dg m a 1)) ∧ w'.cell? ⟨w.heap.size, 5, none⟩ = some (.int .i64 (dg m a 2)) ∧ w'.cell? ⟨w.heap.size, 6, none⟩ = some (.int .i64 (dg m a 3)) ∧ w'.cell? ⟨P, 0, none⟩ = some (.int .i64 m) ∧ w'.cell? ⟨P, 1, none⟩ = some (.int .i64 (pr m)) ∧ w'.cell? ⟨P, 2, none⟩ = some (.int .i64 (pl m)) ∧ w'.cell? ⟨P, 3, none⟩ = some (.int .i64 (dg m X 0)) ∧ w'.cell? ⟨P, 4, none⟩ = some (.int .i64 (dg m X 1)) ∧ w'.cell? ⟨P, 5, none⟩ = some (.int .i64 (dg m X 2)) ∧ w'.cell? ⟨P, 6, none⟩ = some (.int .i64 (dg m X 3)) ∧ w'.cell? ⟨gD, y * 7, none⟩ = some (.int .i64 m) ∧ w'.cell? ⟨gD, y * 7 + 1, none⟩ = some (.int .i64 (pr m)) ∧ w'.cell? ⟨gD, y * 7 + 2, none⟩ = some (.int .i64 (pl m)) ∧ w'.cell? ⟨gD, y * 7 + 3, none⟩ = some (.int .i64 (dg m (D y) 0)) ∧ w'.cell? ⟨gD, y * 7 + 4, none⟩ = some (.int .i64 (dg m (D y) 1)) ∧ w'.cell? ⟨gD, y * 7 + 5, none⟩ = some (.int .i64 (dg m (D y) 2)) ∧ w'.cell? ⟨gD, y * 7 + 6, none⟩ = some (.int .i64 (dg m (D y) 3)) ∧ w'.cell? ⟨gE, x * 7, none⟩ = some (.int .i64 m) ∧ w'.cell? ⟨gE, x * 7 + 1, none⟩ = some (.int .i64 (pr m)) ∧ w'.cell? ⟨gE, x * 7 + 2, none⟩ = some (.int .i64 (pl m)) ∧ w'.cell? ⟨gE, x * 7 + 3, none⟩ = some (.int .i64 (dg m x 0)) ∧ w'.cell? ⟨gE, x * 7 + 4, none⟩ = some (.int .i64 (dg m x 1)) ∧ w'.cell? ⟨gE, x * 7 + 5, none⟩ = some (.int .i64 (dg m x 2)) ∧ w'.cell? ⟨gE, x * 7 + 6, none⟩ = some (.int .i64 (dg m x 3)) ∧ w'.cell? ⟨gE, y * 7, none⟩ = some (.int .i64 m) ∧ w'.cell? ⟨gE, y * 7 + 1, none⟩ = some (.int .i64 (pr m)) ∧ w'.cell? ⟨gE, y * 7 + 2, none⟩ = some (.int .i64 (pl m)) ∧ w'.cell? ⟨gE, y * 7 + 3, none⟩ = some (.int .i64 (dg m y 0)) ∧ w'.cell? ⟨gE, y * 7 + 4, none⟩ = some (.int .i64 (dg m y 1)) ∧ w'.cell? ⟨gE, y * 7 + 5, none⟩ = some (.int .i64 (dg m y 2)) ∧ w'.cell? ⟨gE, y * 7 + 6, none⟩ = some (.int .i64 (dg m y 3))) := Lib.hid fun w' hb => HKI.out w' (HBS.out.trans (hb.mono hzs)) y hly
            have HEQ := Lib.hid (HEQX.out y hly)
            have HHY := HHX.out y
            have HJ := Lib.hid (HJX.out y hly)
            generalize D y = Y at *
            generalize J x y = j at *
            generalize hdd : decide (Y = X) = d at *
            clear hdd
            have HBF : Hid (∀ w', Below wr.heap.size wr w' → Below (P + 1) wo w') := Lib.hid fun w' hb => HBS.out.trans (hb.mono hzs)
            have HST : Hid (H x y = false → ∀ y', x < y' → y' < y + 1 → H x y' = false) := Lib.hid fun h0 y' h1 h2 => by
              by_cases e : y' = y
              · subst e; exact h0
              · exact HNY.out y' h1 (by omega)
            have HBX : Hid (∀ w', Below wr.heap.size wr w' → Below w.heap.size w w') := Lib.hid fun w' hb => (HBO.out w' (HBF.out w' hb)).2
            cases d with
            | false =>
              have HG : Hid (H x y = false) := Lib.hid (by rw [HHY]; rfl)
              clear HHY HJ
              have heq0 := HEQ.out
              obtain ⟨x0, x1, x2, x3, x4, x5, x6, p0, p1, p2, p3, p4, p5, p6, d0, d1, d2, d3, d4, d5, d6, e0, e1, e2, e3, e4, e5, e6, f0, f1, f2, f3, f4, f5, f6⟩ := HKEEP.out wr (Below.refl _ _)
              go_wp2_with fail
              go_quiet (fail)
              go_wp2
              go_roundw
              case rel => exact ⟨y + 1, by omega, by omega, by go_num, HST.out HG.out, HBF.out _ (by (repeat' (first | (with_reducible assumption) | (with_reducible exact Below.refl _ _) | (with_reducible refine below_drewN ?_ _) | (with_reducible refine Below.drew ?_) | (with_reducible refine Below.alloc ?_ ?_ _) | (with_reducible refine Below.setCell ?_ ?_ _) | (with_reducible refine Below.trans ?_ (Below.mono (by assumption) ?_)) | (with_reducible exact Nat.le_refl _) | (with_reducible assumption) | omega | (simp; omega) | (simp; done))))⟩
              case measure => (simp [intOf]; try omega)
            | true =>
              cases j with
              | true =>
                have HG : Hid (H x y = false) := Lib.hid (by rw [HHY]; rfl)
                clear HHY
                have heq0 := HEQ.out
                go_wp2_with fail
                go_region_held3 (fun w' => w'.cell? ⟨w.heap.size, 0, none⟩ = some (.int .i64 m) ∧ w'.cell? ⟨w.heap.size, 1, none⟩ = some (.int .i64 (pr m)) ∧ w'.cell? ⟨w.heap.size, 2, none⟩ = some (.int .i64 (pl m)) ∧ w'.cell? ⟨w.heap.size, 3, none⟩ = some (.int .i64 (dg m a 0)) ∧ w'.cell? ⟨w.heap.size, 4, none⟩ = some (.int .i64 (dg m a 1)) ∧ w'.cell? ⟨w.heap.size, 5, none⟩ = some (.int .i64 (dg m a 2)) ∧ w'.cell? ⟨w.heap.size, 6, none⟩ = some (.int .i64 (dg m a 3)) ∧ w'.cell? ⟨P, 0, none⟩ = some (.int .i64 m) ∧ w'.cell? ⟨P, 1, none⟩ = some (.int .i64 (pr m)) ∧ w'.cell? ⟨P, 2, none⟩ = some (.int .i64 (pl m)) ∧ w'.cell? ⟨P, 3, none⟩ = some (.int .i64 (dg m X 0)) ∧ w'.cell? ⟨P, 4, none⟩ = some (.int .i64 (dg m X 1)) ∧ w'.cell? ⟨P, 5, none⟩ = some (.int .i64 (dg m X 2)) ∧ w'.cell? ⟨P, 6, none⟩ = some (.int .i64 (dg m X 3)) ∧ w'.cell? ⟨gD, y * 7, none⟩ = some (.int .i64 m) ∧ w'.cell? ⟨gD, y * 7 + 1, none⟩ = some (.int .i64 (pr m)) ∧ w'.cell? ⟨gD, y * 7 + 2, none⟩ = some (.int .i64 (pl m)) ∧ w'.cell? ⟨gD, y * 7 + 3, none⟩ = some (.int .i64 (dg m Y 0)) ∧ w'.cell? ⟨gD, y * 7 + 4, none⟩ = some (.int .i64 (dg m Y 1)) ∧ w'.cell? ⟨gD, y * 7 + 5, none⟩ = some (.int .i64 (dg m Y 2)) ∧ w'.cell? ⟨gD, y * 7 + 6, none⟩ = some (.int .i64 (dg m Y 3)) ∧ w'.cell? ⟨gE, x * 7, none⟩ = some (.int .i64 m) ∧ w'.cell? ⟨gE, x * 7 + 1, none⟩ = some (.int .i64 (pr m)) ∧ w'.cell? ⟨gE, x * 7 + 2, none⟩ = some (.int .i64 (pl m)) ∧ w'.cell? ⟨gE, x * 7 + 3, none⟩ = some (.int .i64 (dg m x 0)) ∧ w'.cell? ⟨gE, x * 7 + 4, none⟩ = some (.int .i64 (dg m x 1)) ∧ w'.cell? ⟨gE, x * 7 + 5, none⟩ = some (.int .i64 (dg m x 2)) ∧ w'.cell? ⟨gE, x * 7 + 6, none⟩ = some (.int .i64 (dg m x 3)) ∧ w'.cell? ⟨gE, y * 7, none⟩ = some (.int .i64 m) ∧ w'.cell? ⟨gE, y * 7 + 1, none⟩ = some (.int .i64 (pr m)) ∧ w'.cell? ⟨gE, y * 7 + 2, none⟩ = some (.int .i64 (pl m)) ∧ w'.cell? ⟨gE, y * 7 + 3, none⟩ = some (.int .i64 (dg m y 0)) ∧ w'.cell? ⟨gE, y * 7 + 4, none⟩ = some (.int .i64 (dg m y 1)) ∧ w'.cell? ⟨gE, y * 7 + 5, none⟩ = some (.int .i64 (dg m y 2)) ∧ w'.cell? ⟨gE, y * 7 + 6, none⟩ = some (.int .i64 (dg m y 3)))
                  (exact HKEEP.out _ (by (try have hb6 := HB6.out); (repeat' (first | (with_reducible assumption) | (with_reducible exact Below.refl _ _) | (with_reducible refine below_drewN ?_ _) | (with_reducible refine Below.drew ?_) | (with_reducible refine Below.alloc ?_ ?_ _) | (with_reducible refine Below.setCell ?_ ?_ _) | (with_reducible refine Below.trans ?_ (Below.mono (by assumption) ?_)) | (with_reducible exact Nat.le_refl _) | (with_reducible assumption) | omega | (simp; omega) | (simp; done)))))
                  (first | (go_at_call 128; refine (HJ.out _).mono ?_; rintro e w6 ⟨rfl, hb6⟩; obtain ⟨hc6, hf6⟩ := bcell hb6; (try simp only [World.size_drew] at hc6 hf6); have hz6 := hb6.size; (try simp at hz6); have HB6 := Lib.hid hb6; clear hb6))
                all_goals
                  go_wp2
                  go_roundw
                  case rel => exact ⟨y + 1, by omega, by omega, by go_num, HST.out HG.out, HBF.out _ (by have hb6 := HB6.out; (repeat' (first | (with_reducible assumption) | (with_reducible exact Below.refl _ _) | (with_reducible refine below_drewN ?_ _) | (with_reducible refine Below.drew ?_) | (with_reducible refine Below.alloc ?_ ?_ _) | (with_reducible refine Below.setCell ?_ ?_ _) | (with_reducible refine Below.trans ?_ (Below.mono (by assumption) ?_)) | (with_reducible exact Nat.le_refl _) | (with_reducible assumption) | omega | (simp; omega) | (simp; done))))⟩
                  case measure => (simp [intOf]; try omega)
              | false =>
                have HG : Hid (H x y = true) := Lib.hid (by rw [HHY]; rfl)
                clear HHY
                have heq0 := HEQ.out
                go_wp2_with fail
                go_region_held3 (fun w' => w'.cell? ⟨w.heap.size, 0, none⟩ = some (.int .i64 m) ∧ w'.cell? ⟨w.heap.size, 1, none⟩ = some (.int .i64 (pr m)) ∧ w'.cell? ⟨w.heap.size, 2, none⟩ = some (.int .i64 (pl m)) ∧ w'.cell? ⟨w.heap.size, 3, none⟩ = some (.int .i64 (dg m a 0)) ∧ w'.cell? ⟨w.heap.size, 4, none⟩ = some (.int .i64 (dg m a 1)) ∧ w'.cell? ⟨w.heap.size, 5, none⟩ = some (.int .i64 (dg m a 2)) ∧ w'.cell? ⟨w.heap.size, 6, none⟩ = some (.int .i64 (dg m a 3)) ∧ w'.cell? ⟨P, 0, none⟩ = some (.int .i64 m) ∧ w'.cell? ⟨P, 1, none⟩ = some (.int .i64 (pr m)) ∧ w'.cell? ⟨P, 2, none⟩ = some (.int .i64 (pl m)) ∧ w'.cell? ⟨P, 3, none⟩ = some (.int .i64 (dg m X 0)) ∧ w'.cell? ⟨P, 4, none⟩ = some (.int .i64 (dg m X 1)) ∧ w'.cell? ⟨P, 5, none⟩ = some (.int .i64 (dg m X 2)) ∧ w'.cell? ⟨P, 6, none⟩ = some (.int .i64 (dg m X 3)) ∧ w'.cell? ⟨gD, y * 7, none⟩ = some (.int .i64 m) ∧ w'.cell? ⟨gD, y * 7 + 1, none⟩ = some (.int .i64 (pr m)) ∧ w'.cell? ⟨gD, y * 7 + 2, none⟩ = some (.int .i64 (pl m)) ∧ w'.cell? ⟨gD, y * 7 + 3, none⟩ = some (.int .i64 (dg m Y 0)) ∧ w'.cell? ⟨gD, y * 7 + 4, none⟩ = some (.int .i64 (dg m Y 1)) ∧ w'.cell? ⟨gD, y * 7 + 5, none⟩ = some (.int .i64 (dg m Y 2)) ∧ w'.cell? ⟨gD, y * 7 + 6, none⟩ = some (.int .i64 (dg m Y 3)) ∧ w'.cell? ⟨gE, x * 7, none⟩ = some (.int .i64 m) ∧ w'.cell? ⟨gE, x * 7 + 1, none⟩ = some (.int .i64 (pr m)) ∧ w'.cell? ⟨gE, x * 7 + 2, none⟩ = some (.int .i64 (pl m)) ∧ w'.cell? ⟨gE, x * 7 + 3, none⟩ = some (.int .i64 (dg m x 0)) ∧ w'.cell? ⟨gE, x * 7 + 4, none⟩ = some (.int .i64 (dg m x 1)) ∧ w'.cell? ⟨gE, x * 7 + 5, none⟩ = some (.int .i64 (dg m x 2)) ∧ w'.cell? ⟨gE, x * 7 + 6, none⟩ = some (.int .i64 (dg m x 3)) ∧ w'.cell? ⟨gE, y * 7, none⟩ = some (.int .i64 m) ∧ w'.cell? ⟨gE, y * 7 + 1, none⟩ = some (.int .i64 (pr m)) ∧ w'.cell? ⟨gE, y * 7 + 2, none⟩ = some (.int .i64 (pl m)) ∧ w'.cell? ⟨gE, y * 7 + 3, none⟩ = some (.int .i64 (dg m y 0)) ∧ w'.cell? ⟨gE, y * 7 + 4, none⟩ = some (.int .i64 (dg m y 1)) ∧ w'.cell? ⟨gE, y * 7 + 5, none⟩ = some (.int .i64 (dg m y 2)) ∧ w'.cell? ⟨gE, y * 7 + 6, none⟩ = some (.int .i64 (dg m y 3)))
                  (exact HKEEP.out _ (by (try have hb6 := HB6.out); (repeat' (first | (with_reducible assumption) | (with_reducible exact Below.refl _ _) | (with_reducible refine below_drewN ?_ _) | (with_reducible refine Below.drew ?_) | (with_reducible refine Below.alloc ?_ ?_ _) | (with_reducible refine Below.setCell ?_ ?_ _) | (with_reducible refine Below.trans ?_ (Below.mono (by assumption) ?_)) | (with_reducible exact Nat.le_refl _) | (with_reducible assumption) | omega | (simp; omega) | (simp; done)))))
                  (first | (go_at_call 128; refine (HJ.out _).mono ?_; rintro e w6 ⟨rfl, hb6⟩; obtain ⟨hc6, hf6⟩ := bcell hb6; (try simp only [World.size_drew] at hc6 hf6); have hz6 := hb6.size; (try simp at hz6); have HB6 := Lib.hid hb6; clear hb6))
                all_goals
                  go_wp2
                  go_ret3
                  exact ⟨.inl ⟨x, y, by omega, hly, HNO.out, HNY.out, HG.out, rfl⟩, HBX.out _ (by have hb6 := HB6.out; (repeat' (first | (with_reducible assumption) | (with_reducible exact Below.refl _ _) | (with_reducible refine below_drewN ?_ _) | (with_reducible refine Below.drew ?_) | (with_reducible refine Below.alloc ?_ ?_ _) | (with_reducible refine Below.setCell ?_ ?_ _) | (with_reducible refine Below.trans ?_ (Below.mono (by assumption) ?_)) | (with_reducible exact Nat.le_refl _) | (with_reducible assumption) | omega | (simp; omega) | (simp; done))))⟩
          · obtain rfl : m = y := by omega
            have HST : Hid (∀ x', x' < x + 1 → ∀ y', x' < y' → y' < m → H x' y' = false) := Lib.hid fun x' h1 y' h2 h3 => by
              by_cases e : x' = x
              · subst e; exact HNY.out y' h2 h3
              · exact HNO.out x' (by omega) y' h2 h3
            have HBL := Lib.hid (HBO.out wr HBS.out).1
            go_wp2
            go_roundw
            case rel => exact ⟨x + 1, by omega, by go_num, HST.out, HBL.out⟩
            case measure => (simp [intOf]; try omega)
      · obtain rfl : m = x := by omega
        have HBL : Hid (Below w.heap.size w wr) := Lib.hid (HBW.out.trans (HBR.out.mono (by omega)))
        go_wp2
        go_ret3
        exact ⟨.inr ⟨fun x' y' h1 h2 => HNO.out x' (by omega) y' h1 h2, rfl⟩, HBL.out⟩
end Go.Proofs.Ytgndlpdcebmgmaa
