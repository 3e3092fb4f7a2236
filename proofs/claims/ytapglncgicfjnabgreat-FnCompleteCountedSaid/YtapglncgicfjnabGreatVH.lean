/- Lists of elements that are begun, of the program: impl.field.suits, impl.field.continued, by contracts. -/
import Derived.Test.YtapglncgicfjnabGreatVG
import Derived.Test.YtapglncgicfjnabGreatKM
import Derived.Test.YtapglncgicfjnabGreatKG
import Derived.Test.YtapglncgicfjnabGreatNM
import Derived.Deep.RegionHeld3
import Derived.Deep.RegionLaw
namespace Go.Proofs.YtapglncgicfjnabGreat
open Go.RowKit
theorem Tryz.infoEs : (Tryz.prog.info? 65).map (fun i => (i.zero, i.size, i.bytes)) = some (some (.slice none 0 0), 1, 24) := by kernel_rfl
theorem region_cutH {P : Program} {c : Code} {Q : Exit → Act → World → Prop} {a : Act} {w : World} (R : Act → Act → World → Prop) (h0 : ∀ K : Act → World → Prop, (∀ a' w', R a a' w' → K a' w') → c.wp P (Exit.then K Q) a w) (h : ∀ a' w', R a a' w' → Q .normal a' w') : c.wp P Q a w :=
  Code.wp_mono (fun e a' w' hr => by
    cases e with
    | normal => exact h a' w' hr
    | _ => exact hr) (h0 (fun a' w' => R a a' w') fun _ _ h => h)
/-- x holds the elements with the numbers l. -/
def HE (w : World) (m : Nat) (x : Value) (l : List Int) : Prop := ∃ g cap cur, x = .slice (some ⟨g, 0, none⟩) l.length cap ∧ w.heap[g]? = some (.cells cur 70 (0, 0)) ∧ Els w g (m : Int) (fun i => l.getD i 0) l.length
theorem HE.keep {w w' : World} {m : Nat} {x : Value} {l : List Int} (h : HE w m x l) (hk : ∀ g, x.ownBlock = some g → w'.heap[g]? = w.heap[g]?) : HE w' m x l := by
  obtain ⟨g, cap, cur, rfl, hc, he⟩ := h
  exact ⟨g, cap, cur, rfl, (hk g rfl).trans hc, he.same (hk g rfl)⟩
theorem HE.lt {w : World} {m : Nat} {x : Value} {l : List Int} (h : HE w m x l) : ∀ g, x.ownBlock = some g → g < w.heap.size := by
  obtain ⟨g, cap, cur, rfl, hc, he⟩ := h
  intro g' e
  cases e
  exact (Array.getElem?_eq_some_iff.1 hc).1
theorem HE.below {w w' : World} {m B : Nat} {x : Value} {l : List Int} (h : HE w m x l) (hb : Below B w w') (hB : w.heap.size ≤ B) : HE w' m x l :=
  h.keep fun g hg => hb.block g (by have := h.lt g hg; omega)
set_option maxRecDepth 100000 in
set_option maxHeartbeats 8000000 in
/-- impl.field.suits. -/
theorem suitsE (m y : Nat) (v : Value) (t : List Int) (w : World) (h : isSz (m : Int) = true) (hv : HE w m v t) (hb : Bgn m t) (hl : t.length < m) (hy : y < m) :
    Calls Tryz.prog 229 #[fdE (m : Int), v, elE (m : Int) (y : Int)] w fun e w' => e = .returned (.bool (fit m t (y : Int))) ∧ Below w.heap.size w w' := by
  have hq := isSz_le (m : Int) h
  have h1 := hb.pos
  obtain ⟨g, cap, cur, rfl, hcu, he⟩ := hv
  have hg : g < w.heap.size := (Array.getElem?_eq_some_iff.1 hcu).1
  have ey : El (m : Int) (y : Int) := El.nat hy
  have en : El (m : Int) (t.length : Int) := El.nat hl
  have es := El.add h ey en
  have HEN := Lib.hid (fun w => elementE (m : Int) (t.length : Int) w h en.1 en.2)
  have HPN := Lib.hid (fun w => plusE (m : Int) (y : Int) (t.length : Int) w h ey.1 ey.2 en.1 en.2)
  have HEK := Lib.hid (fun (k : Nat) (hk : k < t.length) w => elementE (m : Int) (k : Int) w h (by omega) (by omega))
  have HPK := Lib.hid (fun (k : Nat) (hk : k < t.length) w => plusE (m : Int) (t.getD k 0) (k : Int) w h (hb.els k).1 (hb.els k).2 (by omega) (by omega))
  have HQ1 := Lib.hid (fun (k : Nat) w => eq_dg' (m : Int) (t.getD k 0) (y : Int) h (hb.els k).1 (hb.els k).2 ey.1 ey.2 w)
  have HQ2 := Lib.hid (fun (k : Nat) (hk : k < t.length) w => eq_dg' (m : Int) (addF m (t.getD k 0) (k : Int)) (addF m (y : Int) (t.length : Int)) h (El.add h (hb.els k) (El.nat (by omega))).1 (El.add h (hb.els k) (El.nat (by omega))).2 es.1 es.2 w)
  have HYES : Hid ((∀ i, i < t.length → t.getD i 0 ≠ (y : Int) ∧ addF m (t.getD i 0) (i : Int) ≠ addF m (y : Int) (t.length : Int)) → fit m t (y : Int) = true) := Lib.hid fit_of
  have HNO : Hid (∀ i, i < t.length → t.getD i 0 = (y : Int) ∨ addF m (t.getD i 0) (i : Int) = addF m (y : Int) (t.length : Int) → fit m t (y : Int) = false) := Lib.hid fun i hi h => fit_no hi h
  have HEC : Hid (∀ w', Below w.heap.size w w' → Els w' g (m : Int) (fun i => t.getD i 0) t.length) := Lib.hid fun w' hbw => he.below hbw hg
  clear h hb hcu he ey en es
  generalize fit m t (y : Int) = r at *
  generalize addF (m : Int) (y : Int) (t.length : Int) = S at *
  generalize t.length = n at *
  obtain ⟨T, hT⟩ : ∃ T : Nat → Int, T = fun i => t.getD i 0 := ⟨_, rfl⟩
  have hT' : ∀ i, t.getD i 0 = T i := fun i => by rw [hT]
  simp only [hT'] at HPK HQ1 HQ2 HYES HNO
  have HEC' : Hid (∀ w', Below w.heap.size w w' → Els w' g (m : Int) T n) := Lib.hid fun w' hb => by rw [hT]; exact HEC.out w' hb
  clear hT hT' HEC
  go_enter Tryz.func229, Tryz.ntmps229
  go_wp2_with fail
  have HK1 : Hid (∀ w', Below (w.heap.size + 2) ((w.alloc (ffblk (m : Int))).alloc (eblk (m : Int) (y : Int))) w' → w'.cell? ⟨w.heap.size, 0, none⟩ = some (.int .i64 m) ∧ w'.cell? ⟨w.heap.size, 1, none⟩ = some (.int .i64 (pr m)) ∧ w'.cell? ⟨w.heap.size, 2, none⟩ = some (.int .i64 (pl m)) ∧ w'.cell? ⟨w.heap.size + 1, 0, none⟩ = some (.int .i64 m) ∧ w'.cell? ⟨w.heap.size + 1, 1, none⟩ = some (.int .i64 (pr m)) ∧ w'.cell? ⟨w.heap.size + 1, 2, none⟩ = some (.int .i64 (pl m)) ∧ w'.cell? ⟨w.heap.size + 1, 3, none⟩ = some (.int .i64 (dg m y 0)) ∧ w'.cell? ⟨w.heap.size + 1, 4, none⟩ = some (.int .i64 (dg m y 1)) ∧ w'.cell? ⟨w.heap.size + 1, 5, none⟩ = some (.int .i64 (dg m y 2)) ∧ w'.cell? ⟨w.heap.size + 1, 6, none⟩ = some (.int .i64 (dg m y 3))) := Lib.hid fun w' hb => by
    obtain ⟨t0, t1⟩ := two w (ffblk (m : Int)) (eblk (m : Int) (y : Int))
    obtain ⟨x0, x1, x2, _⟩ := cells3' ((hb.block w.heap.size (by omega)).trans t0)
    obtain ⟨y0, y1, y2, y3, y4, y5, y6, _⟩ := seven ((hb.block (w.heap.size + 1) (by omega)).trans t1)
    exact ⟨x0, x1, x2, y0, y1, y2, y3, y4, y5, y6⟩
  refine region_cutH (fun a a' w' => ∃ (B4 : Nat) (u9 u10 u11 u12 u13 u14 : Value), a' = (((((((a.put (some 7) (.pointer (some ⟨B4, 0, none⟩))).put (some 9) (u9)).put (some 10) (u10)).put (some 11) (u11)).put (some 12) (u12)).put (some 13) (u13)).put (some 14) (u14)) ∧ w'.heap[B4]? = some (eblk (m : Int) S) ∧ w.heap.size + 2 ≤ B4 ∧ Below (w.heap.size + 2) ((w.alloc (ffblk (m : Int))).alloc (eblk (m : Int) (y : Int))) w') ?_ ?_
  · intro KC hKC
    have HKC := Lib.hid hKC
    clear hKC
    go_region_held3 (fun w' => w'.cell? ⟨w.heap.size, 0, none⟩ = some (.int .i64 m) ∧ w'.cell? ⟨w.heap.size, 1, none⟩ = some (.int .i64 (pr m)) ∧ w'.cell? ⟨w.heap.size, 2, none⟩ = some (.int .i64 (pl m)) ∧ w'.cell? ⟨w.heap.size + 1, 0, none⟩ = some (.int .i64 m) ∧ w'.cell? ⟨w.heap.size + 1, 1, none⟩ = some (.int .i64 (pr m)) ∧ w'.cell? ⟨w.heap.size + 1, 2, none⟩ = some (.int .i64 (pl m)) ∧ w'.cell? ⟨w.heap.size + 1, 3, none⟩ = some (.int .i64 (dg m y 0)) ∧ w'.cell? ⟨w.heap.size + 1, 4, none⟩ = some (.int .i64 (dg m y 1)) ∧ w'.cell? ⟨w.heap.size + 1, 5, none⟩ = some (.int .i64 (dg m y 2)) ∧ w'.cell? ⟨w.heap.size + 1, 6, none⟩ = some (.int .i64 (dg m y 3)))
      (exact HK1.out _ (by (try have hb13 := HB13.out); (try have hb14 := HB14.out); (repeat' (first | (with_reducible assumption) | (with_reducible exact Below.refl _ _) | (with_reducible refine below_drewN ?_ _) | (with_reducible refine Below.drew ?_) | (with_reducible refine Below.alloc ?_ ?_ _) | (with_reducible refine Below.setCell ?_ ?_ _) | (with_reducible refine Below.trans ?_ (Below.mono (by assumption) ?_)) | (with_reducible exact Nat.le_refl _) | (with_reducible assumption) | omega | (simp; omega) | (simp; done)))))
      (first
      | (go_at_call 71; refine (HEN.out _).mono ?_; rintro e w13 ⟨rfl, hb13⟩; obtain ⟨hc13, hf13⟩ := bcell hb13; (try simp only [World.size_drew] at hc13 hf13); have hz13 := hb13.size; (try simp at hz13); have HB13 := Lib.hid hb13; clear hb13; (try have l13 : w.heap.size + 1 < w13.heap.size := (by omega)); (try have l13b : w.heap.size + 2 < w13.heap.size := (by omega)))
      | (go_at_call 147; refine (HPN.out _).mono ?_; rintro e w14 ⟨rfl, hb14⟩; obtain ⟨hc14, hf14⟩ := bcell hb14; (try simp only [World.size_drew] at hc14 hf14); have hz14 := hb14.size; (try simp at hz14); have HB14 := Lib.hid hb14; clear hb14; (try have l14 : w.heap.size + 1 < w14.heap.size := (by omega)); (try have l14b : w.heap.size + 2 < w14.heap.size := (by omega)); (try have l14_13 : w13.heap.size < w14.heap.size := (by omega))))
    all_goals
      have hb13 := HB13.out
      have hb14 := HB14.out
      refine HKC.out _ _ ?_
      simp only [Act.put, List.setIfInBounds_toArray, List.set_cons_zero, List.set_cons_succ]
      refine ⟨_, _, _, _, _, _, _, rfl, ?_, by first | omega | (simp; done) | (simp; omega), by (repeat' (first | (with_reducible assumption) | (with_reducible exact Below.refl _ _) | (with_reducible refine below_drewN ?_ _) | (with_reducible refine Below.drew ?_) | (with_reducible refine Below.alloc ?_ ?_ _) | (with_reducible refine Below.setCell ?_ ?_ _) | (with_reducible refine Below.trans ?_ (Below.mono (by assumption) ?_)) | (with_reducible exact Nat.le_refl _) | (with_reducible assumption) | omega | (simp; omega) | (simp; done)))⟩
      first
      | with_reducible exact heap_alloc_new _ _
      | (refine put7_same _ _ _ _ (.int .i64 0) (.int .i64 0) (.int .i64 0) (.int .i64 0) (.int .i64 0) (.int .i64 0) (.int .i64 0) ?_
         repeat' (first
           | with_reducible exact heap_alloc_new _ _
           | with_reducible refine (hb14.block _ ?_).trans ?_
           | with_reducible refine (hb13.block _ ?_).trans ?_
           | with_reducible refine (drew_heap' _ _).trans ?_
           | omega
           | (simp; omega)
           | (simp; done)
           | (rw [show w.heap.size + 2 = ((w.alloc (ffblk (m : Int))).alloc (eblk (m : Int) (y : Int))).heap.size from by simp]; exact heap_alloc_new _ _)))
  · rintro _ W4 ⟨B4, u9, u10, u11, u12, u13, u14, rfl, hb4, hB4g, hbW⟩
    simp only [Act.put, List.setIfInBounds_toArray, List.set_cons_zero, List.set_cons_succ]
    have hB4 : B4 < W4.heap.size := (Array.getElem?_eq_some_iff.1 hb4).1
    have hzW := hbW.size
    simp at hzW
    have HBW := Lib.hid hbW
    have HW4 : Hid (Below w.heap.size w W4) := Lib.hid (by (repeat' (first | (with_reducible assumption) | (with_reducible exact Below.refl _ _) | (with_reducible refine below_drewN ?_ _) | (with_reducible refine Below.drew ?_) | (with_reducible refine Below.alloc ?_ ?_ _) | (with_reducible refine Below.setCell ?_ ?_ _) | (with_reducible refine Below.trans ?_ (Below.mono (by assumption) ?_)) | (with_reducible exact Nat.le_refl _) | (with_reducible assumption) | omega | (simp; omega) | (simp; done))))
    have HB4 := Lib.hid hb4
    clear hbW hb4 HEN HPN
    have HK2 : Hid (∀ (k : Nat), k < n → ∀ x, T k = x → ∀ w', Below W4.heap.size W4 w' → w'.cell? ⟨w.heap.size, 0, none⟩ = some (.int .i64 m) ∧ w'.cell? ⟨w.heap.size, 1, none⟩ = some (.int .i64 (pr m)) ∧ w'.cell? ⟨w.heap.size, 2, none⟩ = some (.int .i64 (pl m)) ∧ w'.cell? ⟨w.heap.size + 1, 0, none⟩ = some (.int .i64 m) ∧ w'.cell? ⟨w.heap.size + 1, 1, none⟩ = some (.int .i64 (pr m)) ∧ w'.cell? ⟨w.heap.size + 1, 2, none⟩ = some (.int .i64 (pl m)) ∧ w'.cell? ⟨w.heap.size + 1, 3, none⟩ = some (.int .i64 (dg m y 0)) ∧ w'.cell? ⟨w.heap.size + 1, 4, none⟩ = some (.int .i64 (dg m y 1)) ∧ w'.cell? ⟨w.heap.size + 1, 5, none⟩ = some (.int .i64 (dg m y 2)) ∧ w'.cell? ⟨w.heap.size + 1, 6, none⟩ = some (.int .i64 (dg m y 3)) ∧ w'.cell? ⟨B4, 0, none⟩ = some (.int .i64 m) ∧ w'.cell? ⟨B4, 1, none⟩ = some (.int .i64 (pr m)) ∧ w'.cell? ⟨B4, 2, none⟩ = some (.int .i64 (pl m)) ∧ w'.cell? ⟨B4, 3, none⟩ = some (.int .i64 (dg m S 0)) ∧ w'.cell? ⟨B4, 4, none⟩ = some (.int .i64 (dg m S 1)) ∧ w'.cell? ⟨B4, 5, none⟩ = some (.int .i64 (dg m S 2)) ∧ w'.cell? ⟨B4, 6, none⟩ = some (.int .i64 (dg m S 3)) ∧ w'.cell? ⟨g, k * 7, none⟩ = some (.int .i64 m) ∧ w'.cell? ⟨g, k * 7 + 1, none⟩ = some (.int .i64 (pr m)) ∧ w'.cell? ⟨g, k * 7 + 2, none⟩ = some (.int .i64 (pl m)) ∧ w'.cell? ⟨g, k * 7 + 3, none⟩ = some (.int .i64 (dg m x 0)) ∧ w'.cell? ⟨g, k * 7 + 4, none⟩ = some (.int .i64 (dg m x 1)) ∧ w'.cell? ⟨g, k * 7 + 5, none⟩ = some (.int .i64 (dg m x 2)) ∧ w'.cell? ⟨g, k * 7 + 6, none⟩ = some (.int .i64 (dg m x 3))) := Lib.hid fun k hk x hx w' hb => by
      have hbb := HBW.out.trans (hb.mono (by omega))
      have hbb0 := HW4.out.trans (hb.mono (by have := HW4.out.size; omega))
      obtain ⟨x0, x1, x2, y0, y1, y2, y3, y4, y5, y6⟩ := HK1.out w' hbb
      obtain ⟨c0, c1, c2, c3, c4, c5, c6, _⟩ := seven ((hb.block B4 hB4).trans HB4.out)
      obtain ⟨z0, z1, z2, z3, z4, z5, z6⟩ := (HEC'.out w' hbb0) k hk
      rw [hx] at z3 z4 z5 z6
      exact ⟨x0, x1, x2, y0, y1, y2, y3, y4, y5, y6, c0, c1, c2, c3, c4, c5, c6, z0, z1, z2, z3, z4, z5, z6⟩
    go_wp2_with fail
    go_loopw [17] (fun vk wr => ∃ k : Nat, k ≤ n ∧ vk = .int .i64 k ∧ (∀ i, i < k → T i ≠ (y : Int) ∧ addF m (T i) (i : Int) ≠ S) ∧ Below W4.heap.size W4 wr) (fun vk _ => n - (intOf vk).toNat)
    case atStart => exact ⟨0, Nat.zero_le _, rfl, fun i hi => absurd hi (Nat.not_lt_zero _), Below.refl _ _⟩
    case round =>
      obtain ⟨k, hk, rfl, hall, hbw⟩ := hrel
      have HALL := Lib.hid hall; clear hall
      have HBr := Lib.hid hbw; clear hbw
      have hzr := HBr.out.size
      by_cases hlt : k < n
      · have HK3 : Hid (∀ w', Below wr.heap.size wr w' → w'.cell? ⟨w.heap.size, 0, none⟩ = some (.int .i64 m) ∧ w'.cell? ⟨w.heap.size, 1, none⟩ = some (.int .i64 (pr m)) ∧ w'.cell? ⟨w.heap.size, 2, none⟩ = some (.int .i64 (pl m)) ∧ w'.cell? ⟨w.heap.size + 1, 0, none⟩ = some (.int .i64 m) ∧ w'.cell? ⟨w.heap.size + 1, 1, none⟩ = some (.int .i64 (pr m)) ∧ w'.cell? ⟨w.heap.size + 1, 2, none⟩ = some (.int .i64 (pl m)) ∧ w'.cell? ⟨w.heap.size + 1, 3, none⟩ = some (.int .i64 (dg m y 0)) ∧ w'.cell? ⟨w.heap.size + 1, 4, none⟩ = some (.int .i64 (dg m y 1)) ∧ w'.cell? ⟨w.heap.size + 1, 5, none⟩ = some (.int .i64 (dg m y 2)) ∧ w'.cell? ⟨w.heap.size + 1, 6, none⟩ = some (.int .i64 (dg m y 3)) ∧ w'.cell? ⟨B4, 0, none⟩ = some (.int .i64 m) ∧ w'.cell? ⟨B4, 1, none⟩ = some (.int .i64 (pr m)) ∧ w'.cell? ⟨B4, 2, none⟩ = some (.int .i64 (pl m)) ∧ w'.cell? ⟨B4, 3, none⟩ = some (.int .i64 (dg m S 0)) ∧ w'.cell? ⟨B4, 4, none⟩ = some (.int .i64 (dg m S 1)) ∧ w'.cell? ⟨B4, 5, none⟩ = some (.int .i64 (dg m S 2)) ∧ w'.cell? ⟨B4, 6, none⟩ = some (.int .i64 (dg m S 3)) ∧ w'.cell? ⟨g, k * 7, none⟩ = some (.int .i64 m) ∧ w'.cell? ⟨g, k * 7 + 1, none⟩ = some (.int .i64 (pr m)) ∧ w'.cell? ⟨g, k * 7 + 2, none⟩ = some (.int .i64 (pl m)) ∧ w'.cell? ⟨g, k * 7 + 3, none⟩ = some (.int .i64 (dg m (T k) 0)) ∧ w'.cell? ⟨g, k * 7 + 4, none⟩ = some (.int .i64 (dg m (T k) 1)) ∧ w'.cell? ⟨g, k * 7 + 5, none⟩ = some (.int .i64 (dg m (T k) 2)) ∧ w'.cell? ⟨g, k * 7 + 6, none⟩ = some (.int .i64 (dg m (T k) 3))) := Lib.hid fun w' hb => HK2.out k hlt _ rfl w' (HBr.out.trans (hb.mono hzr))
        have HEk := Lib.hid (fun w => HEK.out k hlt w)
        have HPk := Lib.hid (fun w => HPK.out k hlt w)
        have hq1 := fun w => HQ1.out k w
        have hq2 := fun w => HQ2.out k hlt w
        have HNk := Lib.hid (HNO.out k hlt)
        have HALk : Hid (T k ≠ (y : Int) → addF m (T k) (k : Int) ≠ S → ∀ i, i < k + 1 → T i ≠ (y : Int) ∧ addF m (T i) (i : Int) ≠ S) := Lib.hid fun h1 h2 i hi => by
          by_cases e : i = k
          · subst e; exact ⟨h1, h2⟩
          · exact HALL.out i (by omega)
        have hk0 : (0 : Int) ≤ (k : Int) := by omega
        have hk1 : (k : Int) < (n : Int) := by omega
        generalize addF (m : Int) (T k) (k : Int) = A at *
        generalize T k = x at *
        by_cases hxy : x = (y : Int)
        · have HF := Lib.hid (HNk.out (.inl hxy))
          have hd : decide (x = (y : Int)) = true := by simpa using hxy
          rw [hd] at hq1
          clear hd hxy hq2 HNk HALk
          obtain ⟨x0, x1, x2, y0, y1, y2, y3, y4, y5, y6, c0, c1, c2, c3, c4, c5, c6, z0, z1, z2, z3, z4, z5, z6⟩ := HK3.out _ (Below.refl _ _)
          generalize (y : Int) = yy at *
          go_wp2_with fail
          go_region
          all_goals
            go_wp2
            go_ret
            have hbr := HBr.out
            have hbw4 := HW4.out
            exact ⟨ret_bool HF.out.symm, by (repeat' (first | (with_reducible assumption) | (with_reducible exact Below.refl _ _) | (with_reducible refine below_drewN ?_ _) | (with_reducible refine Below.drew ?_) | (with_reducible refine Below.alloc ?_ ?_ _) | (with_reducible refine Below.setCell ?_ ?_ _) | (with_reducible refine Below.trans ?_ (Below.mono (by assumption) ?_)) | (with_reducible exact Nat.le_refl _) | (with_reducible assumption) | omega | (simp; omega) | (simp; done)))⟩
        · have hd : decide (x = (y : Int)) = false := by simpa using hxy
          have HALk' := Lib.hid (HALk.out hxy)
          rw [hd] at hq1
          by_cases hAS : A = S
          · have HF := Lib.hid (HNk.out (.inr hAS))
            have hd2 : decide (A = S) = true := by simpa using hAS
            rw [hd2] at hq2
            clear hd hd2 hxy hAS HNk HALk HALk'
            generalize (y : Int) = yy at *
            go_wp2_with fail
            go_region_held3 (fun w' => w'.cell? ⟨w.heap.size, 0, none⟩ = some (.int .i64 m) ∧ w'.cell? ⟨w.heap.size, 1, none⟩ = some (.int .i64 (pr m)) ∧ w'.cell? ⟨w.heap.size, 2, none⟩ = some (.int .i64 (pl m)) ∧ w'.cell? ⟨w.heap.size + 1, 0, none⟩ = some (.int .i64 m) ∧ w'.cell? ⟨w.heap.size + 1, 1, none⟩ = some (.int .i64 (pr m)) ∧ w'.cell? ⟨w.heap.size + 1, 2, none⟩ = some (.int .i64 (pl m)) ∧ w'.cell? ⟨w.heap.size + 1, 3, none⟩ = some (.int .i64 (dg m yy 0)) ∧ w'.cell? ⟨w.heap.size + 1, 4, none⟩ = some (.int .i64 (dg m yy 1)) ∧ w'.cell? ⟨w.heap.size + 1, 5, none⟩ = some (.int .i64 (dg m yy 2)) ∧ w'.cell? ⟨w.heap.size + 1, 6, none⟩ = some (.int .i64 (dg m yy 3)) ∧ w'.cell? ⟨B4, 0, none⟩ = some (.int .i64 m) ∧ w'.cell? ⟨B4, 1, none⟩ = some (.int .i64 (pr m)) ∧ w'.cell? ⟨B4, 2, none⟩ = some (.int .i64 (pl m)) ∧ w'.cell? ⟨B4, 3, none⟩ = some (.int .i64 (dg m S 0)) ∧ w'.cell? ⟨B4, 4, none⟩ = some (.int .i64 (dg m S 1)) ∧ w'.cell? ⟨B4, 5, none⟩ = some (.int .i64 (dg m S 2)) ∧ w'.cell? ⟨B4, 6, none⟩ = some (.int .i64 (dg m S 3)) ∧ w'.cell? ⟨g, k * 7, none⟩ = some (.int .i64 m) ∧ w'.cell? ⟨g, k * 7 + 1, none⟩ = some (.int .i64 (pr m)) ∧ w'.cell? ⟨g, k * 7 + 2, none⟩ = some (.int .i64 (pl m)) ∧ w'.cell? ⟨g, k * 7 + 3, none⟩ = some (.int .i64 (dg m x 0)) ∧ w'.cell? ⟨g, k * 7 + 4, none⟩ = some (.int .i64 (dg m x 1)) ∧ w'.cell? ⟨g, k * 7 + 5, none⟩ = some (.int .i64 (dg m x 2)) ∧ w'.cell? ⟨g, k * 7 + 6, none⟩ = some (.int .i64 (dg m x 3)))
              (exact HK3.out _ (by (try have hb33 := HB33.out); (try have hb34 := HB34.out); (repeat' (first | (with_reducible assumption) | (with_reducible exact Below.refl _ _) | (with_reducible refine below_drewN ?_ _) | (with_reducible refine Below.drew ?_) | (with_reducible refine Below.alloc ?_ ?_ _) | (with_reducible refine Below.setCell ?_ ?_ _) | (with_reducible refine Below.trans ?_ (Below.mono (by assumption) ?_)) | (with_reducible exact Nat.le_refl _) | (with_reducible assumption) | omega | (simp; omega) | (simp; done)))))
              (first
              | (go_at_call 71; refine (HEk.out _).mono ?_; rintro e w33 ⟨rfl, hb33⟩; obtain ⟨hc33, hf33⟩ := bcell hb33; (try simp only [World.size_drew] at hc33 hf33); have hz33 := hb33.size; (try simp at hz33); have HB33 := Lib.hid hb33; clear hb33; (try have l33 : B4 < w33.heap.size := (by omega)))
              | (go_at_call 147; refine (HPk.out _).mono ?_; rintro e w34 ⟨rfl, hb34⟩; obtain ⟨hc34, hf34⟩ := bcell hb34; (try simp only [World.size_drew] at hc34 hf34); have hz34 := hb34.size; (try simp at hz34); have HB34 := Lib.hid hb34; clear hb34; (try have l34 : B4 < w34.heap.size := (by omega))))
            all_goals
              go_wp2
              go_ret
              have hb33 := HB33.out
              have hb34 := HB34.out
              have hbr := HBr.out
              have hbw4 := HW4.out
              exact ⟨ret_bool HF.out.symm, by (repeat' (first | (with_reducible assumption) | (with_reducible exact Below.refl _ _) | (with_reducible refine below_drewN ?_ _) | (with_reducible refine Below.drew ?_) | (with_reducible refine Below.alloc ?_ ?_ _) | (with_reducible refine Below.setCell ?_ ?_ _) | (with_reducible refine Below.trans ?_ (Below.mono (by assumption) ?_)) | (with_reducible exact Nat.le_refl _) | (with_reducible assumption) | omega | (simp; omega) | (simp; done)))⟩
          · have HAL2 := Lib.hid (HALk'.out hAS)
            have hd2 : decide (A = S) = false := by simpa using hAS
            rw [hd2] at hq2
            clear hd hd2 hxy hAS HNk HALk HALk'
            generalize (y : Int) = yy at *
            go_wp2_with fail
            go_region_held3 (fun w' => w'.cell? ⟨w.heap.size, 0, none⟩ = some (.int .i64 m) ∧ w'.cell? ⟨w.heap.size, 1, none⟩ = some (.int .i64 (pr m)) ∧ w'.cell? ⟨w.heap.size, 2, none⟩ = some (.int .i64 (pl m)) ∧ w'.cell? ⟨w.heap.size + 1, 0, none⟩ = some (.int .i64 m) ∧ w'.cell? ⟨w.heap.size + 1, 1, none⟩ = some (.int .i64 (pr m)) ∧ w'.cell? ⟨w.heap.size + 1, 2, none⟩ = some (.int .i64 (pl m)) ∧ w'.cell? ⟨w.heap.size + 1, 3, none⟩ = some (.int .i64 (dg m yy 0)) ∧ w'.cell? ⟨w.heap.size + 1, 4, none⟩ = some (.int .i64 (dg m yy 1)) ∧ w'.cell? ⟨w.heap.size + 1, 5, none⟩ = some (.int .i64 (dg m yy 2)) ∧ w'.cell? ⟨w.heap.size + 1, 6, none⟩ = some (.int .i64 (dg m yy 3)) ∧ w'.cell? ⟨B4, 0, none⟩ = some (.int .i64 m) ∧ w'.cell? ⟨B4, 1, none⟩ = some (.int .i64 (pr m)) ∧ w'.cell? ⟨B4, 2, none⟩ = some (.int .i64 (pl m)) ∧ w'.cell? ⟨B4, 3, none⟩ = some (.int .i64 (dg m S 0)) ∧ w'.cell? ⟨B4, 4, none⟩ = some (.int .i64 (dg m S 1)) ∧ w'.cell? ⟨B4, 5, none⟩ = some (.int .i64 (dg m S 2)) ∧ w'.cell? ⟨B4, 6, none⟩ = some (.int .i64 (dg m S 3)) ∧ w'.cell? ⟨g, k * 7, none⟩ = some (.int .i64 m) ∧ w'.cell? ⟨g, k * 7 + 1, none⟩ = some (.int .i64 (pr m)) ∧ w'.cell? ⟨g, k * 7 + 2, none⟩ = some (.int .i64 (pl m)) ∧ w'.cell? ⟨g, k * 7 + 3, none⟩ = some (.int .i64 (dg m x 0)) ∧ w'.cell? ⟨g, k * 7 + 4, none⟩ = some (.int .i64 (dg m x 1)) ∧ w'.cell? ⟨g, k * 7 + 5, none⟩ = some (.int .i64 (dg m x 2)) ∧ w'.cell? ⟨g, k * 7 + 6, none⟩ = some (.int .i64 (dg m x 3)))
              (exact HK3.out _ (by (try have hb33 := HB33.out); (try have hb34 := HB34.out); (repeat' (first | (with_reducible assumption) | (with_reducible exact Below.refl _ _) | (with_reducible refine below_drewN ?_ _) | (with_reducible refine Below.drew ?_) | (with_reducible refine Below.alloc ?_ ?_ _) | (with_reducible refine Below.setCell ?_ ?_ _) | (with_reducible refine Below.trans ?_ (Below.mono (by assumption) ?_)) | (with_reducible exact Nat.le_refl _) | (with_reducible assumption) | omega | (simp; omega) | (simp; done)))))
              (first
              | (go_at_call 71; refine (HEk.out _).mono ?_; rintro e w33 ⟨rfl, hb33⟩; obtain ⟨hc33, hf33⟩ := bcell hb33; (try simp only [World.size_drew] at hc33 hf33); have hz33 := hb33.size; (try simp at hz33); have HB33 := Lib.hid hb33; clear hb33; (try have l33 : B4 < w33.heap.size := (by omega)))
              | (go_at_call 147; refine (HPk.out _).mono ?_; rintro e w34 ⟨rfl, hb34⟩; obtain ⟨hc34, hf34⟩ := bcell hb34; (try simp only [World.size_drew] at hc34 hf34); have hz34 := hb34.size; (try simp at hz34); have HB34 := Lib.hid hb34; clear hb34; (try have l34 : B4 < w34.heap.size := (by omega))))
            all_goals
              go_wp2_with fail
              have HB5 : Hid (Below W4.heap.size W4 w34) := Lib.hid (by have hb33 := HB33.out; have hb34 := HB34.out; have hbr := HBr.out; (repeat' (first | (with_reducible assumption) | (with_reducible exact Below.refl _ _) | (with_reducible refine below_drewN ?_ _) | (with_reducible refine Below.drew ?_) | (with_reducible refine Below.alloc ?_ ?_ _) | (with_reducible refine Below.setCell ?_ ?_ _) | (with_reducible refine Below.trans ?_ (Below.mono (by assumption) ?_)) | (with_reducible exact Nat.le_refl _) | (with_reducible assumption) | omega | (simp; omega) | (simp; done))))
              go_roundw
              case rel => exact ⟨k + 1, by omega, by go_num, HAL2.out, HB5.out⟩
              case measure => (simp [intOf]; try omega)
      · obtain rfl : k = n := by omega
        have HF := Lib.hid (HYES.out HALL.out)
        go_wp2
        go_ret
        exact ⟨ret_bool HF.out.symm, HW4.out.trans (HBr.out.mono (by have := HW4.out.size; omega))⟩
/-- Slices of lists of elements, from block B on. -/
structure TL (w : World) (B m : Nat) (v : Value) (T : List (List Int)) (X : Nat → Value) : Prop where
  outer : w.ownsRow B 65 1 v T.length (flv X T.length)
  inner : ∀ i, i < T.length → HE w m (X i) (T.getD i [])
theorem outerE_ne {w : World} {B m n : Nat} {v u : Value} {xs : List Value} {l : List Int} (h : w.ownsRow B 65 1 v n xs) (hu : HE w m u l) {g : Nat} (hg : u.ownBlock = some g) : v.ownBlock ≠ some g := by
  intro e
  obtain ⟨g2, c2, cur2, rfl, h2, _⟩ := hu
  rcases h.2 with ⟨rfl, _⟩ | ⟨g1, c1, cur1, rfl, _, h1, _⟩
  · simp [Value.ownBlock] at e
  · simp [Value.ownBlock] at e hg
    subst e
    subst hg
    rw [h1] at h2
    simp at h2
theorem owns_keptE {w w' : World} {B n : Nat} {v : Value} {xs : List Value} {T : TypeId} (h : w.ownsRow B T 1 v n xs) (hk : ∀ g, v.ownBlock = some g → w'.heap[g]? = w.heap[g]?) : w'.ownsRow B T 1 v n xs := by
  refine ⟨h.1, ?_⟩
  rcases h.2 with hn | ⟨g, cap, cur, rfl, hb, hgg, rest⟩
  · exact .inl hn
  · exact .inr ⟨g, cap, cur, rfl, hb, (hk g rfl).trans hgg, rest⟩
theorem TL.lt {w : World} {B m : Nat} {v : Value} {T : List (List Int)} {X : Nat → Value} (h : TL w B m v T X) : ∀ g, v.ownBlock = some g → B ≤ g ∧ g < w.heap.size := World.ownsRow.lt h.outer
theorem TL.nil (w : World) (B m : Nat) (X : Nat → Value) : TL w B m (.slice none 0 0) [] X :=
  ⟨World.ownsRow_nil _ _ _ _, fun _ hi => absurd hi (Nat.not_lt_zero _)⟩
theorem TL.keep {w w' : World} {B m : Nat} {v : Value} {T : List (List Int)} {X : Nat → Value} (h : TL w B m v T X) (ho : ∀ g, v.ownBlock = some g → w'.heap[g]? = w.heap[g]?) (hi : ∀ i, i < T.length → ∀ g, (X i).ownBlock = some g → w'.heap[g]? = w.heap[g]?) : TL w' B m v T X :=
  ⟨owns_keptE h.outer ho, fun i hin => (h.inner i hin).keep (hi i hin)⟩
theorem TL.below {w w' : World} {B m : Nat} {v : Value} {T : List (List Int)} {X : Nat → Value} (h : TL w B m v T X) (hb : Below w.heap.size w w') : TL w' B m v T X :=
  h.keep (fun g hg => hb.block g (h.lt g hg).2) fun i hi g hg => hb.block g ((h.inner i hi).lt g hg)
theorem TL.mono {w : World} {B B' m : Nat} {v : Value} {T : List (List Int)} {X : Nat → Value} (h : TL w B m v T X) (hB : B' ≤ B) : TL w B' m v T X := by
  refine ⟨⟨h.outer.1, ?_⟩, h.inner⟩
  rcases h.outer.2 with hn | ⟨g, cap, cur, rfl, hb, rest⟩
  · exact .inl hn
  · exact .inr ⟨g, cap, cur, rfl, by omega, rest⟩
theorem TL.how {w : World} {B m : Nat} {v : Value} {T : List (List Int)} {X : Nat → Value} (h : TL w B m v T X) : (v = .slice none 0 0 ∧ T = []) ∨ ∃ g cap, v = .slice (some ⟨g, 0, none⟩) T.length cap ∧ B ≤ g ∧ g < w.heap.size ∧ ∀ i, i < T.length → w.cell? ⟨g, i, none⟩ = some (X i) := by
  rcases h.outer.2 with ⟨e, h0⟩ | ⟨g, cap, cur, rfl, hb, hgg, rest⟩
  · exact .inl ⟨e, List.eq_nil_of_length_eq_zero h0⟩
  · refine .inr ⟨g, cap, rfl, hb, (Array.getElem?_eq_some_iff.1 hgg).1, fun i hi => ?_⟩
    have := World.ownsRow.cells h.outer (g := g) rfl i (X i) (flv_get X _ i hi)
    have hadd : (⟨g, 0, none⟩ : Addr).add i = ⟨g, i, none⟩ := by unfold Addr.add; split <;> simp_all
    rwa [hadd] at this
theorem TL.slc {w : World} {B m : Nat} {v : Value} {T : List (List Int)} {X : Nat → Value} (h : TL w B m v T X) : ∃ a cap, v = .slice a T.length cap := by
  rcases h.how with ⟨rfl, rfl⟩ | ⟨g, cap, rfl, _⟩
  · exact ⟨_, _, rfl⟩
  · exact ⟨_, _, rfl⟩
theorem HE.one {w : World} {m : Nat} {x : Value} {l : List Int} (h : HE w m x l) : x.oneCell' = true := by
  obtain ⟨g, cap, cur, rfl, _⟩ := h
  rfl
/-- Lists behind lists. -/
theorem TL.app {w w' : World} {B m : Nat} {v v' : Value} {T T2 : List (List Int)} {X X2 : Nat → Value} (h : TL w B m v T X) (hg : w.grownBy w' v.ownBlock) (hown : w'.ownsRow B 65 1 v' (T.length + T2.length) (flv X T.length ++ flv X2 T2.length))
    (h2 : ∀ i, i < T2.length → HE w m (X2 i) (T2.getD i [])) : TL w' B m v' (T ++ T2) (appX X T.length X2) := by
  refine ⟨?_, fun i hi => ?_⟩
  · rw [List.length_append, flv_app]
    exact hown
  · rw [List.length_append] at hi
    have key : HE w m (appX X T.length X2 i) ((T ++ T2).getD i []) := by
      unfold appX
      by_cases c : i < T.length
      · rw [if_pos c]
        have := h.inner i c
        rwa [show (T ++ T2).getD i [] = T.getD i [] by simp [List.getD, List.getElem?_append_left c]]
      · rw [if_neg c]
        have := h2 (i - T.length) (by omega)
        rwa [show (T ++ T2).getD i [] = T2.getD (i - T.length) [] by simp [List.getD, List.getElem?_append_right (show T.length ≤ i by omega)]]
    exact key.keep fun g hgg => hg.block g (key.lt g hgg) fun e => outerE_ne h.outer key hgg e.symm
theorem TL.one {w : World} {u : Value} {l : List Int} {B m : Nat} (hu : HE w m u l) (hB : B ≤ w.heap.size) : TL (w.alloc (.cells #[u] 65)) B m (.slice (some ⟨w.heap.size, 0, none⟩) 1 1) [l] (fun _ => u) := by
  refine ⟨?_, fun i hi => ?_⟩
  · have := World.ownsRow_lit (base := B) (e := 65) (size := 1) w #[u] 1 hB (by unfold maxLen; omega) rfl
    exact this
  · obtain rfl : i = 0 := by simp at hi; omega
    exact hu.below ((Below.refl _ _).alloc (Nat.le_refl _) _) (Nat.le_refl _)
/-- An own row of elements, as a list. -/
theorem HE.of_own {w : World} {B m : Nat} {v : Value} {l : List Int} (h : w.ownsRow B 70 7 v l.length (elc (m : Int) (fun i => l.getD i 0) l.length)) (hl : 0 < l.length) : HE w m v l := by
  have he := h
  rcases h.2 with ⟨_, h0⟩ | ⟨g, cap, cur, rfl, hb, hgg, rest⟩
  · omega
  · exact ⟨g, cap, cur, rfl, hgg, els_of_owns he⟩
end Go.Proofs.YtapglncgicfjnabGreat
