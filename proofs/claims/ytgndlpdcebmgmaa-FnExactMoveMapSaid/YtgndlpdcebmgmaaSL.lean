/- MoveMap, of both, by contracts; the walk of its law. -/
import Derived.Test.YtgndlpdcebmgmaaSK
import Derived.Test.YtgndlpdcebmgmaaLP
import Derived.Deep.RegionHeld3
namespace Go.Proofs.Ytgndlpdcebmgmaa
open Go.RowKit
/-- All that is asked. -/
def mmOK (q : Int) (l : List Int) (u x y z : Int) : Bool := (isSz q && good q l) && (pos q u && (pos q y && (inE q x && inE q z)))
/-- The moved table: y times t at u a + x, and z a more. -/
def mvt (m : Nat) (t : Nat → Int) (u x y z : Int) : Nat → Int := fun a => addF m (mulF m y (t (addF m (mulF m u (a : Int)) x).toNat)) (mulF m z (a : Int))
theorem mvt_el {m : Nat} {t : Nat → Int} {u x y z : Int} (h : isSz (m : Int) = true) (ht : ∀ i, i < m → El (m : Int) (t i)) (hu : El (m : Int) u) (hx : El (m : Int) x) (hy : El (m : Int) y) (hz : El (m : Int) z) (a : Nat) (ha : a < m) : El (m : Int) (mvt m t u x y z a) := by
  have hA := El.nat ha
  have h1 := El.add h (El.mul h hu hA) hx
  exact El.add h (El.mul h hy (ht _ (by have := h1.1; have := h1.2; omega))) (El.mul h hz hA)
theorem val_lin {m : Nat} {a b x : Int} (h : isSz (m : Int) = true) (ha : El (m : Int) a) (hb : El (m : Int) b) (hx : El (m : Int) x) : val m (lin a b) 2 x = addF m (mulF m a x) b := by
  show addF m (addF m 0 (mulF m b 1)) (mulF m a (mulF m 1 x)) = _
  rw [(mul_one' h hb).2, (add_zero' h hb).2, (mul_one' h hx).1, add_comm' h hb (El.mul h ha hx)]
theorem linearT (m : Nat) (a b : Int) (w : World) (h : isSz (m : Int) = true) (ha : El (m : Int) a) (hb : El (m : Int) b) :
    Calls Try.prog 96 #[fdE (m : Int), elE (m : Int) a, elE (m : Int) b] w fun e w' => ∃ v', e = .returned (polyE (m : Int) v') ∧ IsP w' v' m (fun x => addF m (mulF m a (x : Int)) b) ∧ Below w.heap.size w w' := by
  refine (linearE m a b w h ha hb).mono ?_
  rintro e w' ⟨g, cap, rfl, hg, he, hb'⟩
  exact ⟨_, rfl, ⟨g, _, cap, _, rfl, hg, he, (tb_red h (lin_el h ha hb) 2).like fun x hx => val_lin h ha hb (El.nat hx)⟩, hb'⟩
theorem fiveM (w : World) (A B C D E : Obj) : (((((w.alloc A).alloc B).alloc C).alloc D).alloc E).heap[w.heap.size]? = some A ∧ (((((w.alloc A).alloc B).alloc C).alloc D).alloc E).heap[w.heap.size + 1]? = some B ∧ (((((w.alloc A).alloc B).alloc C).alloc D).alloc E).heap[w.heap.size + 2]? = some C ∧ (((((w.alloc A).alloc B).alloc C).alloc D).alloc E).heap[w.heap.size + 3]? = some D ∧ (((((w.alloc A).alloc B).alloc C).alloc D).alloc E).heap[w.heap.size + 4]? = some E := by
  obtain ⟨t0, t1, t2⟩ := three w A B C
  obtain ⟨s0, s1⟩ := two (((w.alloc A).alloc B).alloc C) D E
  simp only [World.size_alloc, Nat.add_assoc] at s0 s1
  refine ⟨?_, ?_, ?_, ?_, ?_⟩
  · rw [Below.heap_alloc _ _ _ (by first | (simp; done) | (simp; omega)), Below.heap_alloc _ _ _ (by first | (simp; done) | (simp; omega))]; exact t0
  · rw [Below.heap_alloc _ _ _ (by first | (simp; done) | (simp; omega)), Below.heap_alloc _ _ _ (by first | (simp; done) | (simp; omega))]; exact t1
  · rw [Below.heap_alloc _ _ _ (by first | (simp; done) | (simp; omega)), Below.heap_alloc _ _ _ (by first | (simp; done) | (simp; omega))]; exact t2
  · exact s0
  · exact s1
set_option maxRecDepth 100000 in
set_option maxHeartbeats 4000000 in
/-- impl.poly.moved. -/
theorem movedT (m : Nat) (v : Value) (t : Nat → Int) (u x y z : Int) (w : World) (h : isSz (m : Int) = true) (hv : IsP w v m t) (hu : El (m : Int) u) (hx : El (m : Int) x) (hy : El (m : Int) y) (hz : El (m : Int) z) :
    Calls Try.prog 61 #[polyE (m : Int) v, elE (m : Int) u, elE (m : Int) x, elE (m : Int) y, elE (m : Int) z] w fun e w' => ∃ v', e = .returned (polyE (m : Int) v') ∧ IsP w' v' m (mvt m t u x y z) ∧ Below w.heap.size w w' := by
  have hq := isSz_two h
  have HL1 := Lib.hid (fun w => linearT m u x w h hu hx)
  have HL2 := Lib.hid (fun w => linearT m z 0 w h hz (El.zero h))
  have HZE := Lib.hid (fun w => zeroE (m : Int) w h)
  have HC := Lib.hid (fun v2 (U : Nat → Int) w' (hb : Below w.heap.size w w') (hp : IsP w' v2 m U) => composeT m v v2 t U w' h (hv.below hb (Nat.le_refl _)) hp)
  have HS := Lib.hid (fun v2 (U : Nat → Int) w' (hp : IsP w' v2 m U) => scaledT m y v2 U w' h hp hy)
  have HP := Lib.hid (fun v1 v2 (T U : Nat → Int) w' (hp1 : IsP w' v1 m T) (hp2 : IsP w' v2 m U) => plusT m v1 v2 T U w' h hp1 hp2)
  have HEND : Hid (∀ a, a < m → addF m (mulF m y (t (addF m (mulF m u (a : Int)) x).toNat)) (addF m (mulF m z (a : Int)) 0) = mvt m t u x y z a) := Lib.hid fun a ha => by
    rw [(add_zero' h (El.mul h hz (El.nat ha))).1]; rfl
  obtain ⟨a0, k0, c0, rfl⟩ := hv.slice
  clear h hv hu hx hy hz
  obtain ⟨M, hM⟩ : ∃ M, mvt m t u x y z = M := ⟨_, rfl⟩
  rw [hM] at HEND ⊢
  clear hM
  go_enter Try.func61, Try.ntmps61
  go_wp2_with fail
  have HT5 : Hid ((((((( w.alloc (pblk (m : Int) (.slice a0 k0 c0))).alloc (eblk (m : Int) u)).alloc (eblk (m : Int) x)).alloc (eblk (m : Int) y)).alloc (eblk (m : Int) z)).alloc pzblk).heap[w.heap.size + 5]? = some pzblk) := Lib.hid (by
    have := heap_alloc_new (((((w.alloc (pblk (m : Int) (.slice a0 k0 c0))).alloc (eblk (m : Int) u)).alloc (eblk (m : Int) x)).alloc (eblk (m : Int) y)).alloc (eblk (m : Int) z)) pzblk
    simpa using this)
  have HKEEP : Hid (∀ w', Below (w.heap.size + 5) (((((w.alloc (pblk (m : Int) (.slice a0 k0 c0))).alloc (eblk (m : Int) u)).alloc (eblk (m : Int) x)).alloc (eblk (m : Int) y)).alloc (eblk (m : Int) z)) w' → w'.cell? ⟨w.heap.size, 0, none⟩ = some (.int .i64 m) ∧ w'.cell? ⟨w.heap.size, 1, none⟩ = some (.int .i64 (pr m)) ∧ w'.cell? ⟨w.heap.size, 2, none⟩ = some (.int .i64 (pl m)) ∧ w'.cell? ⟨w.heap.size, 3, none⟩ = some (.slice a0 k0 c0) ∧ w'.cell? ⟨w.heap.size + 1, 0, none⟩ = some (.int .i64 m) ∧ w'.cell? ⟨w.heap.size + 1, 1, none⟩ = some (.int .i64 (pr m)) ∧ w'.cell? ⟨w.heap.size + 1, 2, none⟩ = some (.int .i64 (pl m)) ∧ w'.cell? ⟨w.heap.size + 1, 3, none⟩ = some (.int .i64 (dg m u 0)) ∧ w'.cell? ⟨w.heap.size + 1, 4, none⟩ = some (.int .i64 (dg m u 1)) ∧ w'.cell? ⟨w.heap.size + 1, 5, none⟩ = some (.int .i64 (dg m u 2)) ∧ w'.cell? ⟨w.heap.size + 1, 6, none⟩ = some (.int .i64 (dg m u 3)) ∧ w'.cell? ⟨w.heap.size + 2, 0, none⟩ = some (.int .i64 m) ∧ w'.cell? ⟨w.heap.size + 2, 1, none⟩ = some (.int .i64 (pr m)) ∧ w'.cell? ⟨w.heap.size + 2, 2, none⟩ = some (.int .i64 (pl m)) ∧ w'.cell? ⟨w.heap.size + 2, 3, none⟩ = some (.int .i64 (dg m x 0)) ∧ w'.cell? ⟨w.heap.size + 2, 4, none⟩ = some (.int .i64 (dg m x 1)) ∧ w'.cell? ⟨w.heap.size + 2, 5, none⟩ = some (.int .i64 (dg m x 2)) ∧ w'.cell? ⟨w.heap.size + 2, 6, none⟩ = some (.int .i64 (dg m x 3)) ∧ w'.cell? ⟨w.heap.size + 3, 0, none⟩ = some (.int .i64 m) ∧ w'.cell? ⟨w.heap.size + 3, 1, none⟩ = some (.int .i64 (pr m)) ∧ w'.cell? ⟨w.heap.size + 3, 2, none⟩ = some (.int .i64 (pl m)) ∧ w'.cell? ⟨w.heap.size + 3, 3, none⟩ = some (.int .i64 (dg m y 0)) ∧ w'.cell? ⟨w.heap.size + 3, 4, none⟩ = some (.int .i64 (dg m y 1)) ∧ w'.cell? ⟨w.heap.size + 3, 5, none⟩ = some (.int .i64 (dg m y 2)) ∧ w'.cell? ⟨w.heap.size + 3, 6, none⟩ = some (.int .i64 (dg m y 3)) ∧ w'.cell? ⟨w.heap.size + 4, 0, none⟩ = some (.int .i64 m) ∧ w'.cell? ⟨w.heap.size + 4, 1, none⟩ = some (.int .i64 (pr m)) ∧ w'.cell? ⟨w.heap.size + 4, 2, none⟩ = some (.int .i64 (pl m)) ∧ w'.cell? ⟨w.heap.size + 4, 3, none⟩ = some (.int .i64 (dg m z 0)) ∧ w'.cell? ⟨w.heap.size + 4, 4, none⟩ = some (.int .i64 (dg m z 1)) ∧ w'.cell? ⟨w.heap.size + 4, 5, none⟩ = some (.int .i64 (dg m z 2)) ∧ w'.cell? ⟨w.heap.size + 4, 6, none⟩ = some (.int .i64 (dg m z 3))) := Lib.hid fun w' hb => by
    obtain ⟨t0, t1, t2, t3, t4⟩ := fiveM w (pblk (m : Int) (.slice a0 k0 c0)) (eblk (m : Int) u) (eblk (m : Int) x) (eblk (m : Int) y) (eblk (m : Int) z)
    obtain ⟨x0, x1, x2, x3, _⟩ := cells4 ((hb.block _ (by omega)).trans t0)
    obtain ⟨y0, y1, y2, y3, y4, y5, y6, _⟩ := seven ((hb.block _ (by omega)).trans t1)
    obtain ⟨z0, z1, z2, z3, z4, z5, z6, _⟩ := seven ((hb.block _ (by omega)).trans t2)
    obtain ⟨p0, p1, p2, p3, p4, p5, p6, _⟩ := seven ((hb.block _ (by omega)).trans t3)
    obtain ⟨q0, q1, q2, q3, q4, q5, q6, _⟩ := seven ((hb.block _ (by omega)).trans t4)
    exact ⟨x0, x1, x2, x3, y0, y1, y2, y3, y4, y5, y6, z0, z1, z2, z3, z4, z5, z6, p0, p1, p2, p3, p4, p5, p6, q0, q1, q2, q3, q4, q5, q6⟩
  go_region_held3 (fun w' => w'.cell? ⟨w.heap.size, 0, none⟩ = some (.int .i64 m) ∧ w'.cell? ⟨w.heap.size, 1, none⟩ = some (.int .i64 (pr m)) ∧ w'.cell? ⟨w.heap.size, 2, none⟩ = some (.int .i64 (pl m)) ∧ w'.cell? ⟨w.heap.size, 3, none⟩ = some (.slice a0 k0 c0) ∧ w'.cell? ⟨w.heap.size + 1, 0, none⟩ = some (.int .i64 m) ∧ w'.cell? ⟨w.heap.size + 1, 1, none⟩ = some (.int .i64 (pr m)) ∧ w'.cell? ⟨w.heap.size + 1, 2, none⟩ = some (.int .i64 (pl m)) ∧ w'.cell? ⟨w.heap.size + 1, 3, none⟩ = some (.int .i64 (dg m u 0)) ∧ w'.cell? ⟨w.heap.size + 1, 4, none⟩ = some (.int .i64 (dg m u 1)) ∧ w'.cell? ⟨w.heap.size + 1, 5, none⟩ = some (.int .i64 (dg m u 2)) ∧ w'.cell? ⟨w.heap.size + 1, 6, none⟩ = some (.int .i64 (dg m u 3)) ∧ w'.cell? ⟨w.heap.size + 2, 0, none⟩ = some (.int .i64 m) ∧ w'.cell? ⟨w.heap.size + 2, 1, none⟩ = some (.int .i64 (pr m)) ∧ w'.cell? ⟨w.heap.size + 2, 2, none⟩ = some (.int .i64 (pl m)) ∧ w'.cell? ⟨w.heap.size + 2, 3, none⟩ = some (.int .i64 (dg m x 0)) ∧ w'.cell? ⟨w.heap.size + 2, 4, none⟩ = some (.int .i64 (dg m x 1)) ∧ w'.cell? ⟨w.heap.size + 2, 5, none⟩ = some (.int .i64 (dg m x 2)) ∧ w'.cell? ⟨w.heap.size + 2, 6, none⟩ = some (.int .i64 (dg m x 3)) ∧ w'.cell? ⟨w.heap.size + 3, 0, none⟩ = some (.int .i64 m) ∧ w'.cell? ⟨w.heap.size + 3, 1, none⟩ = some (.int .i64 (pr m)) ∧ w'.cell? ⟨w.heap.size + 3, 2, none⟩ = some (.int .i64 (pl m)) ∧ w'.cell? ⟨w.heap.size + 3, 3, none⟩ = some (.int .i64 (dg m y 0)) ∧ w'.cell? ⟨w.heap.size + 3, 4, none⟩ = some (.int .i64 (dg m y 1)) ∧ w'.cell? ⟨w.heap.size + 3, 5, none⟩ = some (.int .i64 (dg m y 2)) ∧ w'.cell? ⟨w.heap.size + 3, 6, none⟩ = some (.int .i64 (dg m y 3)) ∧ w'.cell? ⟨w.heap.size + 4, 0, none⟩ = some (.int .i64 m) ∧ w'.cell? ⟨w.heap.size + 4, 1, none⟩ = some (.int .i64 (pr m)) ∧ w'.cell? ⟨w.heap.size + 4, 2, none⟩ = some (.int .i64 (pl m)) ∧ w'.cell? ⟨w.heap.size + 4, 3, none⟩ = some (.int .i64 (dg m z 0)) ∧ w'.cell? ⟨w.heap.size + 4, 4, none⟩ = some (.int .i64 (dg m z 1)) ∧ w'.cell? ⟨w.heap.size + 4, 5, none⟩ = some (.int .i64 (dg m z 2)) ∧ w'.cell? ⟨w.heap.size + 4, 6, none⟩ = some (.int .i64 (dg m z 3)))
    (exact HKEEP.out _ (by (try have hb3 := HB3.out); (try have hb4 := HB4.out); (try have hb5 := HB5.out); (try have hb6 := HB6.out); (try have hb7 := HB7.out); (try have hb8 := HB8.out); (repeat' (first | (with_reducible assumption) | (with_reducible exact Below.refl _ _) | (with_reducible refine below_drewN ?_ _) | (with_reducible refine Below.drew ?_) | (with_reducible refine Below.alloc ?_ ?_ _) | (with_reducible refine Below.setCell ?_ ?_ _) | (with_reducible refine Below.trans ?_ (Below.mono (by assumption) ?_)) | (with_reducible exact Nat.le_refl _) | (with_reducible assumption) | omega | (simp; omega) | (simp; done)))))
    (first
    | (go_at_call_of 96 (dg (m : Int) u 0); refine (HL1.out _).mono ?_; rintro e w3 ⟨v3, rfl, hp3, hb3⟩; have HP3 := Lib.hid hp3; clear hp3; obtain ⟨hc3, hf3⟩ := bcell hb3; (try simp only [World.size_drew] at hc3 hf3); have hz3 := hb3.size; (try simp at hz3); have HB3 := Lib.hid hb3; clear hb3; have l3 : w.heap.size + 5 < w3.heap.size := (by omega))
    | (go_at_call 95; refine (HC.out _ _ _ (by have hb3 := HB3.out; (repeat' (first | (with_reducible assumption) | (with_reducible exact Below.refl _ _) | (with_reducible refine below_drewN ?_ _) | (with_reducible refine Below.drew ?_) | (with_reducible refine Below.alloc ?_ ?_ _) | (with_reducible refine Below.setCell ?_ ?_ _) | (with_reducible refine Below.trans ?_ (Below.mono (by assumption) ?_)) | (with_reducible exact Nat.le_refl _) | (with_reducible assumption) | omega | (simp; omega) | (simp; done)))) HP3.out).mono ?_; rintro e w4 ⟨v4, rfl, hp4, hb4⟩; have HP4 := Lib.hid hp4; clear hp4; obtain ⟨hc4, hf4⟩ := bcell hb4; (try simp only [World.size_drew] at hc4 hf4); have hz4 := hb4.size; (try simp at hz4); have HB4 := Lib.hid hb4; clear hb4; have l4 : w.heap.size + 5 < w4.heap.size := (by omega))
    | (go_at_call 97; refine (HS.out _ _ _ HP4.out).mono ?_; rintro e w5 ⟨v5, rfl, hp5, hb5⟩; have HP5 := Lib.hid hp5; clear hp5; obtain ⟨hc5, hf5⟩ := bcell hb5; (try simp only [World.size_drew] at hc5 hf5); have hz5 := hb5.size; (try simp at hz5); have HB5 := Lib.hid hb5; clear hb5; have l5 : w.heap.size + 5 < w5.heap.size := (by omega))
    | (go_at_call 99; refine (HZE.out _).mono ?_; rintro e w6 ⟨rfl, hb6⟩; obtain ⟨hc6, hf6⟩ := bcell hb6; (try simp only [World.size_drew] at hc6 hf6); have hz6 := hb6.size; (try simp at hz6); have HB6 := Lib.hid hb6; clear hb6; have l6 : w.heap.size + 5 < w6.heap.size := (by omega))
    | (go_at_call_of 96 (dg (m : Int) z 0); refine (HL2.out _).mono ?_; rintro e w7 ⟨v7, rfl, hp7, hb7⟩; have HP7 := Lib.hid hp7; clear hp7; obtain ⟨hc7, hf7⟩ := bcell hb7; (try simp only [World.size_drew] at hc7 hf7); have hz7 := hb7.size; (try simp at hz7); have HB7 := Lib.hid hb7; clear hb7; have l7 : w.heap.size + 5 < w7.heap.size := (by omega))
    | (go_at_call 98; refine (HP.out _ _ _ _ _ (HP5.out.below (B := w5.heap.size) (w' := w7) (by have hb6 := HB6.out; have hb7 := HB7.out; (repeat' (first | (with_reducible assumption) | (with_reducible exact Below.refl _ _) | (with_reducible refine below_drewN ?_ _) | (with_reducible refine Below.drew ?_) | (with_reducible refine Below.alloc ?_ ?_ _) | (with_reducible refine Below.setCell ?_ ?_ _) | (with_reducible refine Below.trans ?_ (Below.mono (by assumption) ?_)) | (with_reducible exact Nat.le_refl _) | (with_reducible assumption) | omega | (simp; omega) | (simp; done)))) (Nat.le_refl _)) HP7.out).mono ?_; rintro e w8 ⟨v8, rfl, hp8, hb8⟩; obtain ⟨a8, k8, c8, rfl⟩ := hp8.slice; have HP8 := Lib.hid (hp8.like HEND.out); clear hp8; obtain ⟨hc8, hf8⟩ := bcell hb8; (try simp only [World.size_drew] at hc8 hf8); have hz8 := hb8.size; (try simp at hz8); have HB8 := Lib.hid hb8; clear hb8; have l8 : w.heap.size + 5 < w8.heap.size := (by omega)))
  all_goals
    go_wp2_with fail
    have hb3 := HB3.out
    have hb4 := HB4.out
    have hb5 := HB5.out
    have hb6 := HB6.out
    have hb7 := HB7.out
    have hb8 := HB8.out
    have hr : w8.heap[w.heap.size + 5]? = some pzblk := (Below.block (B := w.heap.size + 6) (w := ((((((w.alloc (pblk (m : Int) (.slice a0 k0 c0))).alloc (eblk (m : Int) u)).alloc (eblk (m : Int) x)).alloc (eblk (m : Int) y)).alloc (eblk (m : Int) z)).alloc pzblk)) (by (repeat' (first | (with_reducible assumption) | (with_reducible exact Below.refl _ _) | (with_reducible refine below_drewN ?_ _) | (with_reducible refine Below.drew ?_) | (with_reducible refine Below.alloc ?_ ?_ _) | (with_reducible refine Below.setCell ?_ ?_ _) | (with_reducible refine Below.trans ?_ (Below.mono (by assumption) ?_)) | (with_reducible exact Nat.le_refl _) | (with_reducible assumption) | omega | (simp; omega) | (simp; done)))) (w.heap.size + 5) (by omega)).trans HT5.out
    obtain ⟨r0, r1, r2, r3, rf, rl0⟩ := cells4 hr
    refine bodyPost_ret (v := polyE (m : Int) (.slice a8 k8 c8)) (by simp [results, Try.results61, go_sem, r0, r1, r2, r3]) rfl ⟨_, rfl, ?_, ?_⟩
    · exact HP8.out.over3 hr (fun k hk => by (repeat' (first | (with_reducible rfl) | (with_reducible refine (heap_setCell_other _ _ _ _ ?_).trans ?_) | (with_reducible refine (drew_heap' _ _).trans ?_) | exact hk))) (by simp)
    · (repeat' (first | (with_reducible assumption) | (with_reducible exact Below.refl _ _) | (with_reducible refine below_drewN ?_ _) | (with_reducible refine Below.drew ?_) | (with_reducible refine Below.alloc ?_ ?_ _) | (with_reducible refine Below.setCell ?_ ?_ _) | (with_reducible refine Below.trans ?_ (Below.mono (by assumption) ?_)) | (with_reducible exact Nat.le_refl _) | (with_reducible assumption) | omega | (simp; omega) | (simp; done)))
theorem spec_MoveMap_no0 (q u x y z : Int) (v : Value) (l : List Int) (w : World) (hv : Sl w v l) (hl : l.length ≤ 1048576) (c0 : (isSz q && good q l) = false) :
    Calls Try.prog 31 #[.int .i64 q, v, .int .i64 u, .int .i64 x, .int .i64 y, .int .i64 z] w fun e w' => e = .returned (.tuple #[.slice none 0 0, .bool false]) ∧ Below w.heap.size w w' := by
  have hp := plGood_any q v l w hv hl
  rw [c0] at hp
  have HP := Lib.hid hp
  clear hp hv hl
  clear c0
  go_enter Try.func31, Try.ntmps31
  go_wp2_with fail
  refine HP.out.mono ?_
  rintro e w1 ⟨rfl, hb1⟩
  have HB1 := Lib.hid hb1; clear hb1
  go_wp2_with fail
  go_ret2
  exact ⟨rfl, HB1.out⟩
theorem spec_MoveMap_no1 (q u x y z : Int) (v : Value) (l : List Int) (w : World) (hv : Sl w v l) (hl : l.length ≤ 1048576) (c0 : (isSz q && good q l) = true) (c1 : inE q u = false) :
    Calls Try.prog 31 #[.int .i64 q, v, .int .i64 u, .int .i64 x, .int .i64 y, .int .i64 z] w fun e w' => e = .returned (.tuple #[.slice none 0 0, .bool false]) ∧ Below w.heap.size w w' := by
  have hp := plGood_any q v l w hv hl
  rw [c0] at hp
  have HP := Lib.hid hp
  clear hp hv hl
  have HI1 := Lib.hid (fun w => by
    have := fdIn_any q u w
    rw [c1] at this
    exact this)
  clear c0 c1
  go_enter Try.func31, Try.ntmps31
  go_wp2_with fail
  refine HP.out.mono ?_
  rintro e w1 ⟨rfl, hb1⟩
  have HB1 := Lib.hid hb1; clear hb1
  go_wp2_with fail
  refine (HI1.out _).mono ?_
  rintro e w2 ⟨rfl, hb2⟩
  have HB2 : Hid (Below w.heap.size w w2) := Lib.hid (HB1.out.trans (hb2.mono HB1.out.size)); clear hb2
  go_wp2_with fail
  go_ret2
  exact ⟨rfl, HB2.out⟩
theorem spec_MoveMap_no2 (q u x y z : Int) (v : Value) (l : List Int) (w : World) (hv : Sl w v l) (hl : l.length ≤ 1048576) (c0 : (isSz q && good q l) = true) (c1 : inE q u = true) (c2 : inE q x = false) :
    Calls Try.prog 31 #[.int .i64 q, v, .int .i64 u, .int .i64 x, .int .i64 y, .int .i64 z] w fun e w' => e = .returned (.tuple #[.slice none 0 0, .bool false]) ∧ Below w.heap.size w w' := by
  have hp := plGood_any q v l w hv hl
  rw [c0] at hp
  have HP := Lib.hid hp
  clear hp hv hl
  have HI1 := Lib.hid (fun w => by
    have := fdIn_any q u w
    rw [c1] at this
    exact this)
  have HI2 := Lib.hid (fun w => by
    have := fdIn_any q x w
    rw [c2] at this
    exact this)
  clear c0 c1 c2
  go_enter Try.func31, Try.ntmps31
  go_wp2_with fail
  refine HP.out.mono ?_
  rintro e w1 ⟨rfl, hb1⟩
  have HB1 := Lib.hid hb1; clear hb1
  go_wp2_with fail
  refine (HI1.out _).mono ?_
  rintro e w2 ⟨rfl, hb2⟩
  have HB2 : Hid (Below w.heap.size w w2) := Lib.hid (HB1.out.trans (hb2.mono HB1.out.size)); clear hb2
  go_wp2_with fail
  refine (HI2.out _).mono ?_
  rintro e w3 ⟨rfl, hb3⟩
  have HB3 : Hid (Below w.heap.size w w3) := Lib.hid (HB2.out.trans (hb3.mono HB2.out.size)); clear hb3
  go_wp2_with fail
  go_ret2
  exact ⟨rfl, HB3.out⟩
theorem spec_MoveMap_no3 (q u x y z : Int) (v : Value) (l : List Int) (w : World) (hv : Sl w v l) (hl : l.length ≤ 1048576) (c0 : (isSz q && good q l) = true) (c1 : inE q u = true) (c2 : inE q x = true) (c3 : inE q y = false) :
    Calls Try.prog 31 #[.int .i64 q, v, .int .i64 u, .int .i64 x, .int .i64 y, .int .i64 z] w fun e w' => e = .returned (.tuple #[.slice none 0 0, .bool false]) ∧ Below w.heap.size w w' := by
  have hp := plGood_any q v l w hv hl
  rw [c0] at hp
  have HP := Lib.hid hp
  clear hp hv hl
  have HI1 := Lib.hid (fun w => by
    have := fdIn_any q u w
    rw [c1] at this
    exact this)
  have HI2 := Lib.hid (fun w => by
    have := fdIn_any q x w
    rw [c2] at this
    exact this)
  have HI3 := Lib.hid (fun w => by
    have := fdIn_any q y w
    rw [c3] at this
    exact this)
  clear c0 c1 c2 c3
  go_enter Try.func31, Try.ntmps31
  go_wp2_with fail
  refine HP.out.mono ?_
  rintro e w1 ⟨rfl, hb1⟩
  have HB1 := Lib.hid hb1; clear hb1
  go_wp2_with fail
  refine (HI1.out _).mono ?_
  rintro e w2 ⟨rfl, hb2⟩
  have HB2 : Hid (Below w.heap.size w w2) := Lib.hid (HB1.out.trans (hb2.mono HB1.out.size)); clear hb2
  go_wp2_with fail
  refine (HI2.out _).mono ?_
  rintro e w3 ⟨rfl, hb3⟩
  have HB3 : Hid (Below w.heap.size w w3) := Lib.hid (HB2.out.trans (hb3.mono HB2.out.size)); clear hb3
  go_wp2_with fail
  refine (HI3.out _).mono ?_
  rintro e w4 ⟨rfl, hb4⟩
  have HB4 : Hid (Below w.heap.size w w4) := Lib.hid (HB3.out.trans (hb4.mono HB3.out.size)); clear hb4
  go_wp2_with fail
  go_ret2
  exact ⟨rfl, HB4.out⟩
theorem spec_MoveMap_no4 (q u x y z : Int) (v : Value) (l : List Int) (w : World) (hv : Sl w v l) (hl : l.length ≤ 1048576) (c0 : (isSz q && good q l) = true) (c1 : inE q u = true) (c2 : inE q x = true) (c3 : inE q y = true) (c4 : inE q z = false) :
    Calls Try.prog 31 #[.int .i64 q, v, .int .i64 u, .int .i64 x, .int .i64 y, .int .i64 z] w fun e w' => e = .returned (.tuple #[.slice none 0 0, .bool false]) ∧ Below w.heap.size w w' := by
  have hp := plGood_any q v l w hv hl
  rw [c0] at hp
  have HP := Lib.hid hp
  clear hp hv hl
  have HI1 := Lib.hid (fun w => by
    have := fdIn_any q u w
    rw [c1] at this
    exact this)
  have HI2 := Lib.hid (fun w => by
    have := fdIn_any q x w
    rw [c2] at this
    exact this)
  have HI3 := Lib.hid (fun w => by
    have := fdIn_any q y w
    rw [c3] at this
    exact this)
  have HI4 := Lib.hid (fun w => by
    have := fdIn_any q z w
    rw [c4] at this
    exact this)
  clear c0 c1 c2 c3 c4
  go_enter Try.func31, Try.ntmps31
  go_wp2_with fail
  refine HP.out.mono ?_
  rintro e w1 ⟨rfl, hb1⟩
  have HB1 := Lib.hid hb1; clear hb1
  go_wp2_with fail
  refine (HI1.out _).mono ?_
  rintro e w2 ⟨rfl, hb2⟩
  have HB2 : Hid (Below w.heap.size w w2) := Lib.hid (HB1.out.trans (hb2.mono HB1.out.size)); clear hb2
  go_wp2_with fail
  refine (HI2.out _).mono ?_
  rintro e w3 ⟨rfl, hb3⟩
  have HB3 : Hid (Below w.heap.size w w3) := Lib.hid (HB2.out.trans (hb3.mono HB2.out.size)); clear hb3
  go_wp2_with fail
  refine (HI3.out _).mono ?_
  rintro e w4 ⟨rfl, hb4⟩
  have HB4 : Hid (Below w.heap.size w w4) := Lib.hid (HB3.out.trans (hb4.mono HB3.out.size)); clear hb4
  go_wp2_with fail
  refine (HI4.out _).mono ?_
  rintro e w5 ⟨rfl, hb5⟩
  have HB5 : Hid (Below w.heap.size w w5) := Lib.hid (HB4.out.trans (hb5.mono HB4.out.size)); clear hb5
  go_wp2_with fail
  go_ret2
  exact ⟨rfl, HB5.out⟩
theorem spec_MoveMap_no5 (q u x y z : Int) (v : Value) (l : List Int) (w : World) (hv : Sl w v l) (hl : l.length ≤ 1048576) (c0 : (isSz q && good q l) = true) (c1 : inE q u = true) (c2 : inE q x = true) (c3 : inE q y = true) (c4 : inE q z = true) (c5 : u = 0) :
    Calls Try.prog 31 #[.int .i64 q, v, .int .i64 u, .int .i64 x, .int .i64 y, .int .i64 z] w fun e w' => e = .returned (.tuple #[.slice none 0 0, .bool false]) ∧ Below w.heap.size w w' := by
  have hp := plGood_any q v l w hv hl
  rw [c0] at hp
  have HP := Lib.hid hp
  clear hp hv hl
  have HI1 := Lib.hid (fun w => by
    have := fdIn_any q u w
    rw [c1] at this
    exact this)
  have HI2 := Lib.hid (fun w => by
    have := fdIn_any q x w
    rw [c2] at this
    exact this)
  have HI3 := Lib.hid (fun w => by
    have := fdIn_any q y w
    rw [c3] at this
    exact this)
  have HI4 := Lib.hid (fun w => by
    have := fdIn_any q z w
    rw [c4] at this
    exact this)
  subst c5
  clear c0 c1 c2 c3 c4
  go_enter Try.func31, Try.ntmps31
  go_wp2_with fail
  refine HP.out.mono ?_
  rintro e w1 ⟨rfl, hb1⟩
  have HB1 := Lib.hid hb1; clear hb1
  go_wp2_with fail
  refine (HI1.out _).mono ?_
  rintro e w2 ⟨rfl, hb2⟩
  have HB2 : Hid (Below w.heap.size w w2) := Lib.hid (HB1.out.trans (hb2.mono HB1.out.size)); clear hb2
  go_wp2_with fail
  refine (HI2.out _).mono ?_
  rintro e w3 ⟨rfl, hb3⟩
  have HB3 : Hid (Below w.heap.size w w3) := Lib.hid (HB2.out.trans (hb3.mono HB2.out.size)); clear hb3
  go_wp2_with fail
  refine (HI3.out _).mono ?_
  rintro e w4 ⟨rfl, hb4⟩
  have HB4 : Hid (Below w.heap.size w w4) := Lib.hid (HB3.out.trans (hb4.mono HB3.out.size)); clear hb4
  go_wp2_with fail
  refine (HI4.out _).mono ?_
  rintro e w5 ⟨rfl, hb5⟩
  have HB5 : Hid (Below w.heap.size w w5) := Lib.hid (HB4.out.trans (hb5.mono HB4.out.size)); clear hb5
  go_wp2_with fail
  go_ret2
  exact ⟨rfl, HB5.out⟩
theorem spec_MoveMap_no6 (q u x y z : Int) (v : Value) (l : List Int) (w : World) (hv : Sl w v l) (hl : l.length ≤ 1048576) (c0 : (isSz q && good q l) = true) (c1 : inE q u = true) (c2 : inE q x = true) (c3 : inE q y = true) (c4 : inE q z = true) (c5 : ¬ u = 0) (c6 : y = 0) :
    Calls Try.prog 31 #[.int .i64 q, v, .int .i64 u, .int .i64 x, .int .i64 y, .int .i64 z] w fun e w' => e = .returned (.tuple #[.slice none 0 0, .bool false]) ∧ Below w.heap.size w w' := by
  have hp := plGood_any q v l w hv hl
  rw [c0] at hp
  have HP := Lib.hid hp
  clear hp hv hl
  have HI1 := Lib.hid (fun w => by
    have := fdIn_any q u w
    rw [c1] at this
    exact this)
  have HI2 := Lib.hid (fun w => by
    have := fdIn_any q x w
    rw [c2] at this
    exact this)
  have HI3 := Lib.hid (fun w => by
    have := fdIn_any q y w
    rw [c3] at this
    exact this)
  have HI4 := Lib.hid (fun w => by
    have := fdIn_any q z w
    rw [c4] at this
    exact this)
  subst c6
  have c5b : (u == 0) = false := by simpa using c5
  clear c0 c1 c2 c3 c4
  go_enter Try.func31, Try.ntmps31
  go_wp2_with fail
  refine HP.out.mono ?_
  rintro e w1 ⟨rfl, hb1⟩
  have HB1 := Lib.hid hb1; clear hb1
  go_wp2_with fail
  refine (HI1.out _).mono ?_
  rintro e w2 ⟨rfl, hb2⟩
  have HB2 : Hid (Below w.heap.size w w2) := Lib.hid (HB1.out.trans (hb2.mono HB1.out.size)); clear hb2
  go_wp2_with fail
  refine (HI2.out _).mono ?_
  rintro e w3 ⟨rfl, hb3⟩
  have HB3 : Hid (Below w.heap.size w w3) := Lib.hid (HB2.out.trans (hb3.mono HB2.out.size)); clear hb3
  go_wp2_with fail
  refine (HI3.out _).mono ?_
  rintro e w4 ⟨rfl, hb4⟩
  have HB4 : Hid (Below w.heap.size w w4) := Lib.hid (HB3.out.trans (hb4.mono HB3.out.size)); clear hb4
  go_wp2_with fail
  refine (HI4.out _).mono ?_
  rintro e w5 ⟨rfl, hb5⟩
  have HB5 : Hid (Below w.heap.size w w5) := Lib.hid (HB4.out.trans (hb5.mono HB4.out.size)); clear hb5
  go_wp2_with fail
  go_ret2
  exact ⟨rfl, HB5.out⟩
theorem spec_MoveMap_no (q u x y z : Int) (v : Value) (l : List Int) (w : World) (hv : Sl w v l) (hl : l.length ≤ 1048576) (hn : mmOK q l u x y z = false) :
    Calls Try.prog 31 #[.int .i64 q, v, .int .i64 u, .int .i64 x, .int .i64 y, .int .i64 z] w fun e w' => e = .returned (.tuple #[.slice none 0 0, .bool false]) ∧ Below w.heap.size w w' := by
  cases c0 : isSz q && good q l with
  | false => exact spec_MoveMap_no0 q u x y z v l w hv hl c0
  | true =>
  cases c1 : inE q u with
  | false => exact spec_MoveMap_no1 q u x y z v l w hv hl c0 c1
  | true =>
  cases c2 : inE q x with
  | false => exact spec_MoveMap_no2 q u x y z v l w hv hl c0 c1 c2
  | true =>
  cases c3 : inE q y with
  | false => exact spec_MoveMap_no3 q u x y z v l w hv hl c0 c1 c2 c3
  | true =>
  cases c4 : inE q z with
  | false => exact spec_MoveMap_no4 q u x y z v l w hv hl c0 c1 c2 c3 c4
  | true =>
    by_cases c5 : u = 0
    · exact spec_MoveMap_no5 q u x y z v l w hv hl c0 c1 c2 c3 c4 c5
    · by_cases c6 : y = 0
      · exact spec_MoveMap_no6 q u x y z v l w hv hl c0 c1 c2 c3 c4 c5 c6
      · exfalso
        have h1 := (inE_yes c1).2.1
        have h3 := (inE_yes c3).2.1
        unfold mmOK pos at hn
        rw [c0, c1, c2, c3, c4, decide_eq_true (show 0 < u by omega), decide_eq_true (show 0 < y by omega)] at hn
        cases hn
theorem impl_MoveMap_no1 (q u x y z : Int) (v : Value) (l : List Int) (w : World) (hv : Sl w v l) (hl : l.length ≤ 1048576) (hpa : ((isSz q && good q l) && pos q u) = false) (hpb : pos q y = false) (hxz : (inE q x && inE q z) = false) :
    Calls Try.prog 32 #[.int .i64 q, v, .int .i64 u, .int .i64 x, .int .i64 y, .int .i64 z] w fun e w' => e = .returned (.tuple #[.slice none 0 0, .bool false]) ∧ Below w.heap.size w w' := by
  have HP := Lib.hid (vpn_no q u v l w hv hl hpa)
  have HN := Lib.hid (fun w => nonzeroOf_off q y w hpb)
  have HR := Lib.hid (fun w => pairOf_no q x z w hxz)
  clear hv hpa hpb hl hxz
  go_enter Try.func32, Try.ntmps32
  go_wp2_with fail
  refine HP.out.mono ?_
  rintro e w1 ⟨rfl, hb1⟩
  have hz_hb1 := hb1.size; (try simp at hz_hb1)
  have HB1 := Lib.hid hb1; clear hb1
  go_wp2_with fail
  refine (HN.out _).mono ?_
  rintro e w2 ⟨rfl, hb2⟩
  have HB2 : Hid (Below w.heap.size w w2) := Lib.hid (by have hb1 := HB1.out; (repeat' (first | (with_reducible assumption) | (with_reducible exact Below.refl _ _) | (with_reducible refine below_drewN ?_ _) | (with_reducible refine Below.drew ?_) | (with_reducible refine Below.alloc ?_ ?_ _) | (with_reducible refine Below.setCell ?_ ?_ _) | (with_reducible refine Below.trans ?_ (Below.mono (by assumption) ?_)) | (with_reducible exact Nat.le_refl _) | (with_reducible assumption) | omega | (simp; omega) | (simp; done))))
  have hz2 := HB2.out.size
  clear hb2
  go_wp2_with fail
  refine (HR.out _).mono ?_
  rintro e w3 ⟨rfl, hb3⟩
  have HB3 : Hid (Below w.heap.size w w3) := Lib.hid (by have hb2 := HB2.out; (repeat' (first | (with_reducible assumption) | (with_reducible exact Below.refl _ _) | (with_reducible refine below_drewN ?_ _) | (with_reducible refine Below.drew ?_) | (with_reducible refine Below.alloc ?_ ?_ _) | (with_reducible refine Below.setCell ?_ ?_ _) | (with_reducible refine Below.trans ?_ (Below.mono (by assumption) ?_)) | (with_reducible exact Nat.le_refl _) | (with_reducible assumption) | omega | (simp; omega) | (simp; done))))
  have hz3 := HB3.out.size
  clear hb3
  go_wp2_with fail
  go_ret2
  have hb3 := HB3.out
  exact ⟨rfl, by (repeat' (first | (with_reducible assumption) | (with_reducible exact Below.refl _ _) | (with_reducible refine below_drewN ?_ _) | (with_reducible refine Below.drew ?_) | (with_reducible refine Below.alloc ?_ ?_ _) | (with_reducible refine Below.setCell ?_ ?_ _) | (with_reducible refine Below.trans ?_ (Below.mono (by assumption) ?_)) | (with_reducible exact Nat.le_refl _) | (with_reducible assumption) | omega | (simp; omega) | (simp; done)))⟩
theorem impl_MoveMap_no2 (q u x y z : Int) (v : Value) (l : List Int) (w : World) (hv : Sl w v l) (hl : l.length ≤ 1048576) (hpa : ((isSz q && good q l) && pos q u) = false) (hpb : pos q y = false) (hx : inE q x = true) (hz : inE q z = true) :
    Calls Try.prog 32 #[.int .i64 q, v, .int .i64 u, .int .i64 x, .int .i64 y, .int .i64 z] w fun e w' => e = .returned (.tuple #[.slice none 0 0, .bool false]) ∧ Below w.heap.size w w' := by
  have HP := Lib.hid (vpn_no q u v l w hv hl hpa)
  have HN := Lib.hid (fun w => nonzeroOf_off q y w hpb)
  have HR := Lib.hid (fun w => pairOf_yes q x z w hx hz)
  clear hv hpa hpb hl hx hz
  go_enter Try.func32, Try.ntmps32
  go_wp2_with fail
  refine HP.out.mono ?_
  rintro e w1 ⟨rfl, hb1⟩
  have hz_hb1 := hb1.size; (try simp at hz_hb1)
  have HB1 := Lib.hid hb1; clear hb1
  go_wp2_with fail
  refine (HN.out _).mono ?_
  rintro e w2 ⟨rfl, hb2⟩
  have HB2 : Hid (Below w.heap.size w w2) := Lib.hid (by have hb1 := HB1.out; (repeat' (first | (with_reducible assumption) | (with_reducible exact Below.refl _ _) | (with_reducible refine below_drewN ?_ _) | (with_reducible refine Below.drew ?_) | (with_reducible refine Below.alloc ?_ ?_ _) | (with_reducible refine Below.setCell ?_ ?_ _) | (with_reducible refine Below.trans ?_ (Below.mono (by assumption) ?_)) | (with_reducible exact Nat.le_refl _) | (with_reducible assumption) | omega | (simp; omega) | (simp; done))))
  have hz2 := HB2.out.size
  clear hb2
  go_wp2_with fail
  refine (HR.out _).mono ?_
  rintro e w3 ⟨rfl, hb3⟩
  have HB3 : Hid (Below w.heap.size w w3) := Lib.hid (by have hb2 := HB2.out; (repeat' (first | (with_reducible assumption) | (with_reducible exact Below.refl _ _) | (with_reducible refine below_drewN ?_ _) | (with_reducible refine Below.drew ?_) | (with_reducible refine Below.alloc ?_ ?_ _) | (with_reducible refine Below.setCell ?_ ?_ _) | (with_reducible refine Below.trans ?_ (Below.mono (by assumption) ?_)) | (with_reducible exact Nat.le_refl _) | (with_reducible assumption) | omega | (simp; omega) | (simp; done))))
  have hz3 := HB3.out.size
  clear hb3
  go_wp2_with fail
  go_ret2
  have hb3 := HB3.out
  exact ⟨rfl, by (repeat' (first | (with_reducible assumption) | (with_reducible exact Below.refl _ _) | (with_reducible refine below_drewN ?_ _) | (with_reducible refine Below.drew ?_) | (with_reducible refine Below.alloc ?_ ?_ _) | (with_reducible refine Below.setCell ?_ ?_ _) | (with_reducible refine Below.trans ?_ (Below.mono (by assumption) ?_)) | (with_reducible exact Nat.le_refl _) | (with_reducible assumption) | omega | (simp; omega) | (simp; done)))⟩
theorem impl_MoveMap_no3 (q u x y z : Int) (v : Value) (l : List Int) (w : World) (hv : Sl w v l) (hl : l.length ≤ 1048576) (hpa : ((isSz q && good q l) && pos q u) = false) (hpb : pos q y = true) (hxz : (inE q x && inE q z) = false) :
    Calls Try.prog 32 #[.int .i64 q, v, .int .i64 u, .int .i64 x, .int .i64 y, .int .i64 z] w fun e w' => e = .returned (.tuple #[.slice none 0 0, .bool false]) ∧ Below w.heap.size w w' := by
  have HP := Lib.hid (vpn_no q u v l w hv hl hpa)
  have HN := Lib.hid (fun w => nonzeroOf_on q y w hpb)
  have HR := Lib.hid (fun w => pairOf_no q x z w hxz)
  clear hv hpa hpb hl hxz
  go_enter Try.func32, Try.ntmps32
  go_wp2_with fail
  refine HP.out.mono ?_
  rintro e w1 ⟨rfl, hb1⟩
  have hz_hb1 := hb1.size; (try simp at hz_hb1)
  have HB1 := Lib.hid hb1; clear hb1
  go_wp2_with fail
  refine (HN.out _).mono ?_
  rintro e w2 ⟨rfl, hb2⟩
  have HB2 : Hid (Below w.heap.size w w2) := Lib.hid (by have hb1 := HB1.out; (repeat' (first | (with_reducible assumption) | (with_reducible exact Below.refl _ _) | (with_reducible refine below_drewN ?_ _) | (with_reducible refine Below.drew ?_) | (with_reducible refine Below.alloc ?_ ?_ _) | (with_reducible refine Below.setCell ?_ ?_ _) | (with_reducible refine Below.trans ?_ (Below.mono (by assumption) ?_)) | (with_reducible exact Nat.le_refl _) | (with_reducible assumption) | omega | (simp; omega) | (simp; done))))
  have hz2 := HB2.out.size
  clear hb2
  go_wp2_with fail
  refine (HR.out _).mono ?_
  rintro e w3 ⟨rfl, hb3⟩
  have HB3 : Hid (Below w.heap.size w w3) := Lib.hid (by have hb2 := HB2.out; (repeat' (first | (with_reducible assumption) | (with_reducible exact Below.refl _ _) | (with_reducible refine below_drewN ?_ _) | (with_reducible refine Below.drew ?_) | (with_reducible refine Below.alloc ?_ ?_ _) | (with_reducible refine Below.setCell ?_ ?_ _) | (with_reducible refine Below.trans ?_ (Below.mono (by assumption) ?_)) | (with_reducible exact Nat.le_refl _) | (with_reducible assumption) | omega | (simp; omega) | (simp; done))))
  have hz3 := HB3.out.size
  clear hb3
  go_wp2_with fail
  go_ret2
  have hb3 := HB3.out
  exact ⟨rfl, by (repeat' (first | (with_reducible assumption) | (with_reducible exact Below.refl _ _) | (with_reducible refine below_drewN ?_ _) | (with_reducible refine Below.drew ?_) | (with_reducible refine Below.alloc ?_ ?_ _) | (with_reducible refine Below.setCell ?_ ?_ _) | (with_reducible refine Below.trans ?_ (Below.mono (by assumption) ?_)) | (with_reducible exact Nat.le_refl _) | (with_reducible assumption) | omega | (simp; omega) | (simp; done)))⟩
theorem impl_MoveMap_no4 (q u x y z : Int) (v : Value) (l : List Int) (w : World) (hv : Sl w v l) (hl : l.length ≤ 1048576) (hpa : ((isSz q && good q l) && pos q u) = false) (hpb : pos q y = true) (hx : inE q x = true) (hz : inE q z = true) :
    Calls Try.prog 32 #[.int .i64 q, v, .int .i64 u, .int .i64 x, .int .i64 y, .int .i64 z] w fun e w' => e = .returned (.tuple #[.slice none 0 0, .bool false]) ∧ Below w.heap.size w w' := by
  have HP := Lib.hid (vpn_no q u v l w hv hl hpa)
  have HN := Lib.hid (fun w => nonzeroOf_on q y w hpb)
  have HR := Lib.hid (fun w => pairOf_yes q x z w hx hz)
  clear hv hpa hpb hl hx hz
  go_enter Try.func32, Try.ntmps32
  go_wp2_with fail
  refine HP.out.mono ?_
  rintro e w1 ⟨rfl, hb1⟩
  have hz_hb1 := hb1.size; (try simp at hz_hb1)
  have HB1 := Lib.hid hb1; clear hb1
  go_wp2_with fail
  refine (HN.out _).mono ?_
  rintro e w2 ⟨rfl, hb2⟩
  have HB2 : Hid (Below w.heap.size w w2) := Lib.hid (by have hb1 := HB1.out; (repeat' (first | (with_reducible assumption) | (with_reducible exact Below.refl _ _) | (with_reducible refine below_drewN ?_ _) | (with_reducible refine Below.drew ?_) | (with_reducible refine Below.alloc ?_ ?_ _) | (with_reducible refine Below.setCell ?_ ?_ _) | (with_reducible refine Below.trans ?_ (Below.mono (by assumption) ?_)) | (with_reducible exact Nat.le_refl _) | (with_reducible assumption) | omega | (simp; omega) | (simp; done))))
  have hz2 := HB2.out.size
  clear hb2
  go_wp2_with fail
  refine (HR.out _).mono ?_
  rintro e w3 ⟨rfl, hb3⟩
  have HB3 : Hid (Below w.heap.size w w3) := Lib.hid (by have hb2 := HB2.out; (repeat' (first | (with_reducible assumption) | (with_reducible exact Below.refl _ _) | (with_reducible refine below_drewN ?_ _) | (with_reducible refine Below.drew ?_) | (with_reducible refine Below.alloc ?_ ?_ _) | (with_reducible refine Below.setCell ?_ ?_ _) | (with_reducible refine Below.trans ?_ (Below.mono (by assumption) ?_)) | (with_reducible exact Nat.le_refl _) | (with_reducible assumption) | omega | (simp; omega) | (simp; done))))
  have hz3 := HB3.out.size
  clear hb3
  go_wp2_with fail
  go_ret2
  have hb3 := HB3.out
  exact ⟨rfl, by (repeat' (first | (with_reducible assumption) | (with_reducible exact Below.refl _ _) | (with_reducible refine below_drewN ?_ _) | (with_reducible refine Below.drew ?_) | (with_reducible refine Below.alloc ?_ ?_ _) | (with_reducible refine Below.setCell ?_ ?_ _) | (with_reducible refine Below.trans ?_ (Below.mono (by assumption) ?_)) | (with_reducible exact Nat.le_refl _) | (with_reducible assumption) | omega | (simp; omega) | (simp; done)))⟩
theorem impl_MoveMap_no5 (m u : Nat) (x y z : Int) (v : Value) (l : List Int) (w : World) (hv : Sl w v l) (hs : isSz (m : Int) = true) (hg : good (m : Int) l = true) (hpa : pos (m : Int) (u : Int) = true) (hpb : pos (m : Int) y = false) (hxz : (inE (m : Int) x && inE (m : Int) z) = false) :
    Calls Try.prog 32 #[.int .i64 (m : Int), v, .int .i64 (u : Int), .int .i64 x, .int .i64 y, .int .i64 z] w fun e w' => e = .returned (.tuple #[.slice none 0 0, .bool false]) ∧ Below w.heap.size w w' := by
  have HP := Lib.hid (vpn_on m u v l w hs hv hg hpa)
  have HN := Lib.hid (fun w => nonzeroOf_off (m : Int) y w hpb)
  have HR := Lib.hid (fun w => pairOf_no (m : Int) x z w hxz)
  clear hv hpa hpb hs hg hxz
  go_enter Try.func32, Try.ntmps32
  go_wp2_with fail
  refine HP.out.mono ?_
  rintro e w1 ⟨v1, rfl, hp1, hb1⟩
  obtain ⟨a1, k1, c1, rfl⟩ := hp1.slice
  clear hp1
  have hz_hb1 := hb1.size; (try simp at hz_hb1)
  have HB1 := Lib.hid hb1; clear hb1
  go_wp2_with fail
  refine (HN.out _).mono ?_
  rintro e w2 ⟨rfl, hb2⟩
  have HB2 : Hid (Below w.heap.size w w2) := Lib.hid (by have hb1 := HB1.out; (repeat' (first | (with_reducible assumption) | (with_reducible exact Below.refl _ _) | (with_reducible refine below_drewN ?_ _) | (with_reducible refine Below.drew ?_) | (with_reducible refine Below.alloc ?_ ?_ _) | (with_reducible refine Below.setCell ?_ ?_ _) | (with_reducible refine Below.trans ?_ (Below.mono (by assumption) ?_)) | (with_reducible exact Nat.le_refl _) | (with_reducible assumption) | omega | (simp; omega) | (simp; done))))
  have hz2 := HB2.out.size
  clear hb2
  go_wp2_with fail
  refine (HR.out _).mono ?_
  rintro e w3 ⟨rfl, hb3⟩
  have HB3 : Hid (Below w.heap.size w w3) := Lib.hid (by have hb2 := HB2.out; (repeat' (first | (with_reducible assumption) | (with_reducible exact Below.refl _ _) | (with_reducible refine below_drewN ?_ _) | (with_reducible refine Below.drew ?_) | (with_reducible refine Below.alloc ?_ ?_ _) | (with_reducible refine Below.setCell ?_ ?_ _) | (with_reducible refine Below.trans ?_ (Below.mono (by assumption) ?_)) | (with_reducible exact Nat.le_refl _) | (with_reducible assumption) | omega | (simp; omega) | (simp; done))))
  have hz3 := HB3.out.size
  clear hb3
  go_wp2_with fail
  go_ret2
  have hb3 := HB3.out
  exact ⟨rfl, by (repeat' (first | (with_reducible assumption) | (with_reducible exact Below.refl _ _) | (with_reducible refine below_drewN ?_ _) | (with_reducible refine Below.drew ?_) | (with_reducible refine Below.alloc ?_ ?_ _) | (with_reducible refine Below.setCell ?_ ?_ _) | (with_reducible refine Below.trans ?_ (Below.mono (by assumption) ?_)) | (with_reducible exact Nat.le_refl _) | (with_reducible assumption) | omega | (simp; omega) | (simp; done)))⟩
theorem impl_MoveMap_no6 (m u : Nat) (x y z : Int) (v : Value) (l : List Int) (w : World) (hv : Sl w v l) (hs : isSz (m : Int) = true) (hg : good (m : Int) l = true) (hpa : pos (m : Int) (u : Int) = true) (hpb : pos (m : Int) y = false) (hx : inE (m : Int) x = true) (hz : inE (m : Int) z = true) :
    Calls Try.prog 32 #[.int .i64 (m : Int), v, .int .i64 (u : Int), .int .i64 x, .int .i64 y, .int .i64 z] w fun e w' => e = .returned (.tuple #[.slice none 0 0, .bool false]) ∧ Below w.heap.size w w' := by
  have HP := Lib.hid (vpn_on m u v l w hs hv hg hpa)
  have HN := Lib.hid (fun w => nonzeroOf_off (m : Int) y w hpb)
  have HR := Lib.hid (fun w => pairOf_yes (m : Int) x z w hx hz)
  clear hv hpa hpb hs hg hx hz
  go_enter Try.func32, Try.ntmps32
  go_wp2_with fail
  refine HP.out.mono ?_
  rintro e w1 ⟨v1, rfl, hp1, hb1⟩
  obtain ⟨a1, k1, c1, rfl⟩ := hp1.slice
  clear hp1
  have hz_hb1 := hb1.size; (try simp at hz_hb1)
  have HB1 := Lib.hid hb1; clear hb1
  go_wp2_with fail
  refine (HN.out _).mono ?_
  rintro e w2 ⟨rfl, hb2⟩
  have HB2 : Hid (Below w.heap.size w w2) := Lib.hid (by have hb1 := HB1.out; (repeat' (first | (with_reducible assumption) | (with_reducible exact Below.refl _ _) | (with_reducible refine below_drewN ?_ _) | (with_reducible refine Below.drew ?_) | (with_reducible refine Below.alloc ?_ ?_ _) | (with_reducible refine Below.setCell ?_ ?_ _) | (with_reducible refine Below.trans ?_ (Below.mono (by assumption) ?_)) | (with_reducible exact Nat.le_refl _) | (with_reducible assumption) | omega | (simp; omega) | (simp; done))))
  have hz2 := HB2.out.size
  clear hb2
  go_wp2_with fail
  refine (HR.out _).mono ?_
  rintro e w3 ⟨rfl, hb3⟩
  have HB3 : Hid (Below w.heap.size w w3) := Lib.hid (by have hb2 := HB2.out; (repeat' (first | (with_reducible assumption) | (with_reducible exact Below.refl _ _) | (with_reducible refine below_drewN ?_ _) | (with_reducible refine Below.drew ?_) | (with_reducible refine Below.alloc ?_ ?_ _) | (with_reducible refine Below.setCell ?_ ?_ _) | (with_reducible refine Below.trans ?_ (Below.mono (by assumption) ?_)) | (with_reducible exact Nat.le_refl _) | (with_reducible assumption) | omega | (simp; omega) | (simp; done))))
  have hz3 := HB3.out.size
  clear hb3
  go_wp2_with fail
  go_ret2
  have hb3 := HB3.out
  exact ⟨rfl, by (repeat' (first | (with_reducible assumption) | (with_reducible exact Below.refl _ _) | (with_reducible refine below_drewN ?_ _) | (with_reducible refine Below.drew ?_) | (with_reducible refine Below.alloc ?_ ?_ _) | (with_reducible refine Below.setCell ?_ ?_ _) | (with_reducible refine Below.trans ?_ (Below.mono (by assumption) ?_)) | (with_reducible exact Nat.le_refl _) | (with_reducible assumption) | omega | (simp; omega) | (simp; done)))⟩
theorem impl_MoveMap_no7 (m u : Nat) (x y z : Int) (v : Value) (l : List Int) (w : World) (hv : Sl w v l) (hs : isSz (m : Int) = true) (hg : good (m : Int) l = true) (hpa : pos (m : Int) (u : Int) = true) (hpb : pos (m : Int) y = true) (hxz : (inE (m : Int) x && inE (m : Int) z) = false) :
    Calls Try.prog 32 #[.int .i64 (m : Int), v, .int .i64 (u : Int), .int .i64 x, .int .i64 y, .int .i64 z] w fun e w' => e = .returned (.tuple #[.slice none 0 0, .bool false]) ∧ Below w.heap.size w w' := by
  have HP := Lib.hid (vpn_on m u v l w hs hv hg hpa)
  have HN := Lib.hid (fun w => nonzeroOf_on (m : Int) y w hpb)
  have HR := Lib.hid (fun w => pairOf_no (m : Int) x z w hxz)
  clear hv hpa hpb hs hg hxz
  go_enter Try.func32, Try.ntmps32
  go_wp2_with fail
  refine HP.out.mono ?_
  rintro e w1 ⟨v1, rfl, hp1, hb1⟩
  obtain ⟨a1, k1, c1, rfl⟩ := hp1.slice
  clear hp1
  have hz_hb1 := hb1.size; (try simp at hz_hb1)
  have HB1 := Lib.hid hb1; clear hb1
  go_wp2_with fail
  refine (HN.out _).mono ?_
  rintro e w2 ⟨rfl, hb2⟩
  have HB2 : Hid (Below w.heap.size w w2) := Lib.hid (by have hb1 := HB1.out; (repeat' (first | (with_reducible assumption) | (with_reducible exact Below.refl _ _) | (with_reducible refine below_drewN ?_ _) | (with_reducible refine Below.drew ?_) | (with_reducible refine Below.alloc ?_ ?_ _) | (with_reducible refine Below.setCell ?_ ?_ _) | (with_reducible refine Below.trans ?_ (Below.mono (by assumption) ?_)) | (with_reducible exact Nat.le_refl _) | (with_reducible assumption) | omega | (simp; omega) | (simp; done))))
  have hz2 := HB2.out.size
  clear hb2
  go_wp2_with fail
  refine (HR.out _).mono ?_
  rintro e w3 ⟨rfl, hb3⟩
  have HB3 : Hid (Below w.heap.size w w3) := Lib.hid (by have hb2 := HB2.out; (repeat' (first | (with_reducible assumption) | (with_reducible exact Below.refl _ _) | (with_reducible refine below_drewN ?_ _) | (with_reducible refine Below.drew ?_) | (with_reducible refine Below.alloc ?_ ?_ _) | (with_reducible refine Below.setCell ?_ ?_ _) | (with_reducible refine Below.trans ?_ (Below.mono (by assumption) ?_)) | (with_reducible exact Nat.le_refl _) | (with_reducible assumption) | omega | (simp; omega) | (simp; done))))
  have hz3 := HB3.out.size
  clear hb3
  go_wp2_with fail
  go_ret2
  have hb3 := HB3.out
  exact ⟨rfl, by (repeat' (first | (with_reducible assumption) | (with_reducible exact Below.refl _ _) | (with_reducible refine below_drewN ?_ _) | (with_reducible refine Below.drew ?_) | (with_reducible refine Below.alloc ?_ ?_ _) | (with_reducible refine Below.setCell ?_ ?_ _) | (with_reducible refine Below.trans ?_ (Below.mono (by assumption) ?_)) | (with_reducible exact Nat.le_refl _) | (with_reducible assumption) | omega | (simp; omega) | (simp; done)))⟩
set_option maxRecDepth 100000 in
set_option maxHeartbeats 4000000 in
theorem spec_MoveMap_yes (m : Nat) (u x y z : Int) (v : Value) (l : List Int) (w : World) (h : isSz (m : Int) = true) (hv : Sl w v l) (hg : good (m : Int) l = true) (hu : El (m : Int) u) (u0 : 0 < u) (hx : El (m : Int) x) (hy : El (m : Int) y) (y0 : 0 < y) (hz : El (m : Int) z) :
    Calls Try.prog 31 #[.int .i64 m, v, .int .i64 u, .int .i64 x, .int .i64 y, .int .i64 z] w fun e w' => ∃ v', e = .returned (.tuple #[v', .bool true]) ∧ Row w' w.heap.size v' (ptl m (mvt m (tbl m l) u x y z)) ∧ Below w.heap.size w w' := by
  have hq := isSz_two h
  have hlen := (good_parts hg).1
  have hp := plGood_any (m : Int) v l w hv (by omega)
  rw [h, hg] at hp
  have HP := Lib.hid hp
  have inn : ∀ a : Int, El (m : Int) a → inE (m : Int) a = true := fun a ha => by simp [inE, h, ha.1, ha.2]
  have HI : Hid (∀ a : Int, El (m : Int) a → ∀ w, Calls Try.prog 56 #[.int .i64 m, .int .i64 a] w fun e w' => e = .returned (.bool true) ∧ Below w.heap.size w w') := Lib.hid fun a ha w => by
    have := fdIn_any (m : Int) a w
    rw [inn a ha] at this
    exact this
  have hu0 : (u == 0) = false := by simp; omega
  have hy0 : (y == 0) = false := by simp; omega
  have HIu := Lib.hid (HI.out u hu)
  have HIx := Lib.hid (HI.out x hx)
  have HIy := Lib.hid (HI.out y hy)
  have HIz := Lib.hid (HI.out z hz)
  have hf := all_el h (good_parts hg).2
  have HT1 := Lib.hid (fun (a : Nat) (ha : a < m) w => fdTimes_any (m : Int) u (a : Int) w h hu.1 hu.2 (by omega) (by omega))
  have HT2 := Lib.hid (fun (a : Nat) (ha : a < m) w => fdTimes_any (m : Int) z (a : Int) w h hz.1 hz.2 (by omega) (by omega))
  have HPX := Lib.hid (fun (c : Int) (hc : El (m : Int) c) w => fdPlus_any (m : Int) c x w h hc.1 hc.2 hx.1 hx.2)
  have HAT : Hid (∀ (s : Nat), s < m → ∀ w', Below w.heap.size w w' → Calls Try.prog 58 #[.int .i64 m, v, .int .i64 s] w' fun e w'' => e = .returned (.int .i64 (tbl m l s)) ∧ Below w'.heap.size w' w'') := Lib.hid fun s hs w' hb =>
    plAt_any (m : Int) (s : Int) v (fun i => l.getD i 0) l.length l w' h (El.nat hs) (hv.below hb (Nat.le_refl _)) rfl (fun _ _ => rfl) (fun i _ => hf i) (by omega)
  have HTY := Lib.hid (fun (c : Int) (hc : El (m : Int) c) w => fdTimes_any (m : Int) y c w h hy.1 hy.2 hc.1 hc.2)
  have HPP := Lib.hid (fun (c d : Int) (hc : El (m : Int) c) (hd : El (m : Int) d) w => fdPlus_any (m : Int) c d w h hc.1 hc.2 hd.1 hd.2)
  have HE1 := Lib.hid (fun (a : Nat) (ha : a < m) => El.mul h hu (El.nat ha))
  have HE2 := Lib.hid (fun (a : Nat) (ha : a < m) => El.add h (El.mul h hu (El.nat ha)) hx)
  have HE3 := Lib.hid (fun (s : Nat) (hs : s < m) => tbl_el h hg s hs)
  have HE4 := Lib.hid (fun (s : Nat) (hs : s < m) => El.mul h hy (tbl_el h hg s hs))
  have HE5 := Lib.hid (fun (a : Nat) (ha : a < m) => El.mul h hz (El.nat ha))
  have HM : Hid (∀ a : Nat, mvt m (tbl m l) u x y z a = addF m (mulF m y (tbl m l (addF m (mulF m u (a : Int)) x).toNat)) (mulF m z (a : Int))) := Lib.hid fun _ => rfl
  have HSUC := Lib.hid (fl_succ (mvt m (tbl m l) u x y z))
  have hel := mvt_el h (tbl_el h hg) hu hx hy hz
  have HF := Lib.hid (fun v' w' (hs : Sl w' v' (fl (mvt m (tbl m l) u x y z) m)) => by
    have := plFromT m v' (mvt m (tbl m l) u x y z) w' h hs hel
    rw [ftl_ptl h hel] at this
    exact this)
  clear hp h hg hv inn HI hu hx hy hz hf hel
  generalize ptl m (mvt m (tbl m l) u x y z) = r at *
  generalize mvt m (tbl m l) u x y z = M at *
  generalize tbl m l = t at *
  obtain ⟨i0, hi, iz0, iz1, iz2⟩ := info_parts Try.infoI
  go_enter Try.func31, Try.ntmps31
  go_wp2_with fail
  refine HP.out.mono ?_
  rintro e w1 ⟨rfl, hb1⟩
  have HB1 := Lib.hid hb1; clear hb1
  go_wp2_with fail
  refine (HIu.out _).mono ?_
  rintro e w2 ⟨rfl, hb2⟩
  have HB2 : Hid (Below w.heap.size w w2) := Lib.hid (HB1.out.trans (hb2.mono HB1.out.size)); clear hb2
  go_wp2_with fail
  refine (HIx.out _).mono ?_
  rintro e w3 ⟨rfl, hb3⟩
  have HB3 : Hid (Below w.heap.size w w3) := Lib.hid (HB2.out.trans (hb3.mono HB2.out.size)); clear hb3
  go_wp2_with fail
  refine (HIy.out _).mono ?_
  rintro e w4 ⟨rfl, hb4⟩
  have HB4 : Hid (Below w.heap.size w w4) := Lib.hid (HB3.out.trans (hb4.mono HB3.out.size)); clear hb4
  go_wp2_with fail
  refine (HIz.out _).mono ?_
  rintro e w5 ⟨rfl, hb5⟩
  have HB5 : Hid (Below w.heap.size w w5) := Lib.hid (HB4.out.trans (hb5.mono HB4.out.size)); clear hb5
  go_wp2_with fail
  go_loopw [14, 15] (fun vo vi wr => ∃ a : Nat, a ≤ m ∧ vi = .int .i64 a ∧ Row wr w5.heap.size vo (fl M a) ∧ Below w5.heap.size w5 wr) (fun _ vi _ => m - (intOf vi).toNat)
  case atStart => exact ⟨0, Nat.zero_le _, rfl, Row.nil _ _, Below.refl _ _⟩
  case round =>
    obtain ⟨a, ham, rfl, hr, hbw⟩ := hrel
    have HR := Lib.hid hr
    have HBR := Lib.hid hbw
    have hz := hbw.size
    clear hr hbw
    by_cases hlt : a < m
    · have HBX : Hid (∀ w', Below wr.heap.size wr w' → Below w.heap.size w w') := Lib.hid fun w' hb => HB5.out.trans ((HBR.out.trans (hb.mono hz)).mono HB5.out.size)
      have HMa := HM.out a
      have HSi := Lib.hid (HSUC.out a)
      have HT1a := Lib.hid (HT1.out a hlt)
      have HT2a := Lib.hid (HT2.out a hlt)
      have HPXa := Lib.hid (HPX.out _ (HE1.out a hlt))
      have he2 := HE2.out a hlt
      have he5 := HE5.out a hlt
      obtain ⟨s, hs⟩ := Int.eq_ofNat_of_zero_le he2.1
      have hsm : s < m := by have := he2.2; omega
      rw [hs, Int.toNat_natCast] at HMa
      rw [hs] at HPXa
      have HATs := Lib.hid (HAT.out s hsm)
      have HTYs := Lib.hid (HTY.out _ (HE3.out s hsm))
      have HPPs := Lib.hid (HPP.out _ _ (HE4.out s hsm) he5)
      rw [← HMa] at HPPs
      clear he2 he5 hs HMa
      generalize t s = T at *
      generalize mulF m y T = Y at *
      generalize mulF m z (a : Int) = Z at *
      generalize mulF m u (a : Int) = U at *
      generalize M a = W at *
      go_wp2_with fail
      refine (HT1a.out _).mono ?_
      rintro e w6 ⟨rfl, hb6⟩
      have HB6 : Hid (Below wr.heap.size wr w6) := Lib.hid (hb6); clear hb6
      go_wp2_with fail
      refine (HPXa.out _).mono ?_
      rintro e w7 ⟨rfl, hb7⟩
      have HB7 : Hid (Below wr.heap.size wr w7) := Lib.hid (HB6.out.trans (hb7.mono HB6.out.size)); clear hb7
      go_wp2_with fail
      refine (HATs.out _ (HBX.out _ HB7.out)).mono ?_
      rintro e w8 ⟨rfl, hb8⟩
      have HB8 : Hid (Below wr.heap.size wr w8) := Lib.hid (HB7.out.trans (hb8.mono HB7.out.size)); clear hb8
      go_wp2_with fail
      refine (HTYs.out _).mono ?_
      rintro e w9 ⟨rfl, hb9⟩
      have HB9 : Hid (Below wr.heap.size wr w9) := Lib.hid (HB8.out.trans (hb9.mono HB8.out.size)); clear hb9
      go_wp2_with fail
      refine (HT2a.out _).mono ?_
      rintro e w10 ⟨rfl, hb10⟩
      have HB10 : Hid (Below wr.heap.size wr w10) := Lib.hid (HB9.out.trans (hb10.mono HB9.out.size)); clear hb10
      go_wp2_with fail
      refine (HPPs.out _).mono ?_
      rintro e w11 ⟨rfl, hb11⟩
      have HB11 : Hid (Below wr.heap.size wr w11) := Lib.hid (HB10.out.trans (hb11.mono HB10.out.size)); clear hb11
      have HR2 := Lib.hid (HR.out.below HB11.out)
      have HBW2 : Hid (Below w5.heap.size w5 w11) := Lib.hid (HBR.out.trans (HB11.out.mono hz))
      go_wp2_with (at_builtin; refine wpList_append_own _ rfl _ _ 22 rfl w5.heap.size 3 i0 (.int .i64 0) 1 8 Try.underlying22 hi iz0 iz1 iz2 rfl (by decide) _ _ _ rfl (World.ownsRow.alloc HR2.out _) ⟨w11.heap.size, 0, none⟩ 1 1 [.int .i64 W] rfl rfl ?c1 ?c2 ?c3 ?c4 ?c5 ?_)
      case c1 => exact cell_one_new _ _ _
      case c2 => first | rfl | (intro u hu; simp at hu; subst hu; rfl)
      case c3 => rw [fl_len]; unfold maxLen; omega
      case c4 => rw [fl_len]; omega
      case c5 => have := HBW2.out.size; first | omega | (simp; omega)
      intro v' w12 hown hgrow _
      have HR6 := Lib.hid (Row.appended hown)
      have hb6 : Below w5.heap.size w5 (w11.alloc (.cells #[.int .i64 W] 3)) := HBW2.out.alloc (by have := HBW2.out.size; omega) _
      have HB12 := Lib.hid (hb6.grown hgrow (by have := HBW2.out.size; simp; omega) (fun g hg => (HR2.out.lt g hg).1))
      clear hown hgrow hb6
      go_wp2
      go_roundw
      case rel => exact ⟨a + 1, by omega, by go_num, by rw [HSi.out]; exact HR6.out, HB12.out⟩
      case measure => (simp [intOf]; try omega)
    · obtain rfl : m = a := by omega
      have HBF : Hid (Below w.heap.size w wr) := Lib.hid (HB5.out.trans (HBR.out.mono HB5.out.size))
      go_wp2_with fail
      refine (HF.out _ _ HR.out.sl).mono ?_
      rintro e w6 ⟨v6, rfl, hr6, hb6⟩
      have HR6 := Lib.hid (hr6.mono HBF.out.size)
      have HB6 : Hid (Below w.heap.size w w6) := Lib.hid (HBF.out.trans (hb6.mono HBF.out.size)); clear hb6 hr6
      go_wp2
      go_ret2
      exact ⟨_, rfl, HR6.out, HB6.out⟩
set_option maxRecDepth 100000 in
set_option maxHeartbeats 4000000 in
theorem impl_MoveMap_yes (m u : Nat) (x y z : Int) (v : Value) (l : List Int) (w : World) (h : isSz (m : Int) = true) (hv : Sl w v l) (hg : good (m : Int) l = true) (hu : u < m) (u0 : 0 < u) (hx : El (m : Int) x) (hy : El (m : Int) y) (y0 : 0 < y) (hz : El (m : Int) z) :
    Calls Try.prog 32 #[.int .i64 m, v, .int .i64 u, .int .i64 x, .int .i64 y, .int .i64 z] w fun e w' => ∃ v', e = .returned (.tuple #[v', .bool true]) ∧ Row w' w.heap.size v' (ptl m (mvt m (tbl m l) u x y z)) ∧ Below w.heap.size w w' := by
  have hq := isSz_two h
  have inn : ∀ a : Int, El (m : Int) a → inE (m : Int) a = true := fun a ha => by simp [inE, h, ha.1, ha.2]
  have HP := Lib.hid (vpn_yes m u v l w h hv hg hu u0)
  have HN := Lib.hid (fun w => nonzeroOf_on (m : Int) y w (by unfold pos; rw [inn y hy, decide_eq_true y0]; rfl))
  have HR := Lib.hid (fun w => pairOf_yes (m : Int) x z w (inn x hx) (inn z hz))
  have HM := Lib.hid (fun v' w' (hp : IsP w' v' m (tbl m l)) => movedT m v' (tbl m l) (u : Int) x y z w' h hp (El.nat hu) hx hy hz)
  have HU := Lib.hid (fun v' w' (hp : IsP w' v' m (mvt m (tbl m l) u x y z)) => numbersT m v' (mvt m (tbl m l) u x y z) w' h hp)
  clear h hv hg hx hy hz inn
  generalize ptl m (mvt m (tbl m l) u x y z) = r at *
  generalize mvt m (tbl m l) u x y z = M at *
  generalize tbl m l = t at *
  go_enter Try.func32, Try.ntmps32
  go_wp2_with fail
  refine HP.out.mono ?_
  rintro e w1 ⟨v1, rfl, hp1, hb1⟩
  obtain ⟨a1, k1, c1, rfl⟩ := hp1.slice
  have HP1 := Lib.hid hp1; clear hp1
  have hz_hb1 := hb1.size; (try simp at hz_hb1)
  have HB1 := Lib.hid hb1; clear hb1
  go_wp2_with fail
  refine (HN.out _).mono ?_
  rintro e w2 ⟨rfl, hb2⟩
  have hb12 : Below w1.heap.size w1 w2 := by (repeat' (first | (with_reducible assumption) | (with_reducible exact Below.refl _ _) | (with_reducible refine below_drewN ?_ _) | (with_reducible refine Below.drew ?_) | (with_reducible refine Below.alloc ?_ ?_ _) | (with_reducible refine Below.setCell ?_ ?_ _) | (with_reducible refine Below.trans ?_ (Below.mono (by assumption) ?_)) | (with_reducible exact Nat.le_refl _) | (with_reducible assumption) | omega | (simp; omega) | (simp; done)))
  have hx0 := (hb2.block w1.heap.size (by simp; omega)).trans (two w1 (pblk (m : Int) (.slice a1 k1 c1)) (eblk (m : Int) (u : Int))).1
  have hx1 := (hb2.block (w1.heap.size + 1) (by simp)).trans (two w1 (pblk (m : Int) (.slice a1 k1 c1)) (eblk (m : Int) (u : Int))).2
  have hz2 := hb2.size
  simp at hz2
  have HX0 := Lib.hid hx0
  have HX1 := Lib.hid hx1
  have HP2 := Lib.hid (HP1.out.below hb12 (Nat.le_refl _))
  have HB2 : Hid (Below w.heap.size w w2) := Lib.hid (by have hb1 := HB1.out; (repeat' (first | (with_reducible assumption) | (with_reducible exact Below.refl _ _) | (with_reducible refine below_drewN ?_ _) | (with_reducible refine Below.drew ?_) | (with_reducible refine Below.alloc ?_ ?_ _) | (with_reducible refine Below.setCell ?_ ?_ _) | (with_reducible refine Below.trans ?_ (Below.mono (by assumption) ?_)) | (with_reducible exact Nat.le_refl _) | (with_reducible assumption) | omega | (simp; omega) | (simp; done))))
  clear hb2 hb12 hx0 hx1
  go_wp2_with fail
  refine (HR.out _).mono ?_
  rintro e w3 ⟨rfl, hb3⟩
  have hb23 : Below w2.heap.size w2 w3 := by (repeat' (first | (with_reducible assumption) | (with_reducible exact Below.refl _ _) | (with_reducible refine below_drewN ?_ _) | (with_reducible refine Below.drew ?_) | (with_reducible refine Below.alloc ?_ ?_ _) | (with_reducible refine Below.setCell ?_ ?_ _) | (with_reducible refine Below.trans ?_ (Below.mono (by assumption) ?_)) | (with_reducible exact Nat.le_refl _) | (with_reducible assumption) | omega | (simp; omega) | (simp; done)))
  have hy0 := (hb3.block w2.heap.size (by simp)).trans (heap_alloc_new w2 (eblk (m : Int) y))
  obtain ⟨p0, p1, p2, p3, pf, pl0⟩ := cells4 ((hb23.block w1.heap.size (by omega)).trans HX0.out)
  obtain ⟨u0', u1, u2, u3, u4, u5, u6, uf, ul⟩ := seven ((hb23.block (w1.heap.size + 1) (by omega)).trans HX1.out)
  obtain ⟨s0, s1, s2, s3, s4, s5, s6, sf, sl⟩ := seven hy0
  have hz3 := hb3.size
  simp at hz3
  have HP3 := Lib.hid (HP2.out.below hb23 (Nat.le_refl _))
  have HB3 : Hid (Below w.heap.size w w3) := Lib.hid (by have hb2 := HB2.out; (repeat' (first | (with_reducible assumption) | (with_reducible exact Below.refl _ _) | (with_reducible refine below_drewN ?_ _) | (with_reducible refine Below.drew ?_) | (with_reducible refine Below.alloc ?_ ?_ _) | (with_reducible refine Below.setCell ?_ ?_ _) | (with_reducible refine Below.trans ?_ (Below.mono (by assumption) ?_)) | (with_reducible exact Nat.le_refl _) | (with_reducible assumption) | omega | (simp; omega) | (simp; done))))
  clear hb3 hb23 hy0
  go_wp2_with fail
  refine (HM.out _ _ (HP3.out.below (B := w3.heap.size) (by (repeat' (first | (with_reducible assumption) | (with_reducible exact Below.refl _ _) | (with_reducible refine below_drewN ?_ _) | (with_reducible refine Below.drew ?_) | (with_reducible refine Below.alloc ?_ ?_ _) | (with_reducible refine Below.setCell ?_ ?_ _) | (with_reducible refine Below.trans ?_ (Below.mono (by assumption) ?_)) | (with_reducible exact Nat.le_refl _) | (with_reducible assumption) | omega | (simp; omega) | (simp; done)))) (Nat.le_refl _))).mono ?_
  rintro e w4 ⟨v4, rfl, hp4, hb4⟩
  have HP4 := Lib.hid hp4; clear hp4
  have HB4 : Hid (Below w.heap.size w w4) := Lib.hid (by have hb3 := HB3.out; have := hb3.size; (repeat' (first | (with_reducible assumption) | (with_reducible exact Below.refl _ _) | (with_reducible refine below_drewN ?_ _) | (with_reducible refine Below.drew ?_) | (with_reducible refine Below.alloc ?_ ?_ _) | (with_reducible refine Below.setCell ?_ ?_ _) | (with_reducible refine Below.trans ?_ (Below.mono (by assumption) ?_)) | (with_reducible exact Nat.le_refl _) | (with_reducible assumption) | omega | (simp; omega) | (simp; done)))); clear hb4
  go_wp2_with fail
  refine (HU.out _ _ HP4.out).mono ?_
  rintro e w5 ⟨v5, rfl, hr5, hb5⟩
  have HR5 := Lib.hid (hr5.mono HB4.out.size)
  have HB5 : Hid (Below w.heap.size w w5) := Lib.hid (HB4.out.trans (hb5.mono HB4.out.size)); clear hb5 hr5
  go_wp2
  go_ret2
  exact ⟨_, rfl, HR5.out, HB5.out⟩
theorem key_MoveMap (q : Int) (l_f : List Int) (b_f : l_f.length ≤ 1048576) (u : Int) (x : Int) (y : Int) (z : Int) : ∃ (r : List Int) (o : Bool), r.length ≤ 1048576 ∧ (∀ (w : World) (v_f : Value) (_ : Sl w v_f l_f), Calls Try.prog 31 #[.int .i64 q, v_f, .int .i64 u, .int .i64 x, .int .i64 y, .int .i64 z] w fun e w' => ∃ v, e = .returned (.tuple #[v, .bool o]) ∧ Row w' w.heap.size v r ∧ Below w.heap.size w w') ∧
      (∀ (w : World) (v_f : Value) (_ : Sl w v_f l_f), Calls Try.prog 32 #[.int .i64 q, v_f, .int .i64 u, .int .i64 x, .int .i64 y, .int .i64 z] w fun e w' => ∃ v, e = .returned (.tuple #[v, .bool o]) ∧ Row w' w.heap.size v r ∧ Below w.heap.size w w') := by
  cases h : mmOK q l_f u x y z with
  | false =>
    refine ⟨[], false, by simp, fun w v hv => (spec_MoveMap_no q u x y z v l_f w hv b_f h).mono fun _ _ ⟨he, hb⟩ => ⟨_, he, Row.nil _ _, hb⟩, fun w v hv => ?_⟩
    have key : Calls Try.prog 32 #[.int .i64 q, v, .int .i64 u, .int .i64 x, .int .i64 y, .int .i64 z] w fun e w' => e = .returned (.tuple #[.slice none 0 0, .bool false]) ∧ Below w.heap.size w w' := by
      cases h1 : (isSz q && good q l_f) && pos q u with
      | false =>
        cases h2 : pos q y with
        | false =>
          cases h3 : inE q x && inE q z with
          | false => exact impl_MoveMap_no1 q u x y z v l_f w hv b_f h1 h2 h3
          | true =>
            simp only [Bool.and_eq_true] at h3
            exact impl_MoveMap_no2 q u x y z v l_f w hv b_f h1 h2 h3.1 h3.2
        | true =>
          cases h3 : inE q x && inE q z with
          | false => exact impl_MoveMap_no3 q u x y z v l_f w hv b_f h1 h2 h3
          | true =>
            simp only [Bool.and_eq_true] at h3
            exact impl_MoveMap_no4 q u x y z v l_f w hv b_f h1 h2 h3.1 h3.2
      | true =>
        have h1' := h1
        simp only [Bool.and_eq_true] at h1
        obtain ⟨⟨hs, hg⟩, hpa⟩ := h1
        have hq := isSz_le q hs
        obtain ⟨m, rfl⟩ := Int.eq_ofNat_of_zero_le (show 0 ≤ q by omega)
        have hp' := hpa
        simp only [pos, Bool.and_eq_true, decide_eq_true_iff] at hp'
        obtain ⟨u, rfl⟩ := Int.eq_ofNat_of_zero_le (show 0 ≤ u by omega)
        cases h2 : pos (m : Int) y with
        | false =>
          cases h3 : inE (m : Int) x && inE (m : Int) z with
          | false => exact impl_MoveMap_no5 m u x y z v l_f w hv hs hg hpa h2 h3
          | true =>
            simp only [Bool.and_eq_true] at h3
            exact impl_MoveMap_no6 m u x y z v l_f w hv hs hg hpa h2 h3.1 h3.2
        | true =>
          cases h3 : inE (m : Int) x && inE (m : Int) z with
          | false => exact impl_MoveMap_no7 m u x y z v l_f w hv hs hg hpa h2 h3
          | true =>
            exfalso
            simp only [Bool.and_eq_true] at h3
            unfold mmOK at h
            rw [hs, hg, hpa, h2, h3.1, h3.2] at h
            cases h
    exact key.mono fun _ _ ⟨he, hb⟩ => ⟨_, he, Row.nil _ _, hb⟩
  | true =>
    unfold mmOK at h
    simp only [Bool.and_eq_true] at h
    obtain ⟨⟨hs, hg⟩, hpu, hpy, hix, hiz⟩ := h
    have hq := isSz_le q hs
    obtain ⟨m, rfl⟩ := Int.eq_ofNat_of_zero_le (show 0 ≤ q by omega)
    simp only [pos, Bool.and_eq_true, decide_eq_true_iff] at hpu hpy
    have hu := (inE_yes hpu.1).2
    obtain ⟨u, rfl⟩ := Int.eq_ofNat_of_zero_le (show 0 ≤ u by omega)
    have hx := inE_el hix
    have hy := inE_el hpy.1
    have hz := inE_el hiz
    refine ⟨_, true, ?_, fun w v hv => spec_MoveMap_yes m (u : Int) x y z v l_f w hs hv hg (inE_el hpu.1) hpu.2 hx hy hpy.2 hz, fun w v hv => impl_MoveMap_yes m u x y z v l_f w hs hv hg (by omega) (by omega) hx hy hpy.2 hz⟩
    have := isSz_two hs
    unfold ptl; rw [fl_len]; have := sn_le (ipl m (mvt m (tbl m l_f) u x y z) m) m; omega
set_option maxRecDepth 100000 in
set_option maxHeartbeats 4000000 in
/-- laws.FnExactMoveMap. -/
theorem walk_FnExactMoveMap (q : Int) (a_f : Option Addr) (n_f c_f : Nat) (z_f : List Int) (u : Int) (x : Int) (y : Int) (z : Int) (w : World) (_h_q : (Lit.int .i64 q).wf = true) (h_f : IsRow .i64 w a_f n_f c_f z_f) (_h_u : (Lit.int .i64 u).wf = true) (_h_x : (Lit.int .i64 x).wf = true) (_h_y : (Lit.int .i64 y).wf = true) (_h_z : (Lit.int .i64 z).wf = true) :
    Calls Try.prog 10 #[.int .i64 q, .slice a_f n_f c_f, .int .i64 u, .int .i64 x, .int .i64 y, .int .i64 z] w fun e w' => e = .returned (.bool true) ∧ Below w.heap.size w w' := by
  clear _h_q
  clear _h_u
  clear _h_x
  clear _h_y
  clear _h_z
  obtain ⟨hs_f, hl_f, _⟩ := h_f.sl
  generalize z_f.take n_f = l_f at *
  clear h_f
  subst hl_f
  by_cases b_f : l_f.length ≤ 1048576
  rotate_left
  · have hn_f : (1048576 : Int) < (l_f.length : Int) := by omega
    go_enter Try.func10, Try.ntmps10
    go_wp2
    go_ret
    exact ⟨rfl, Below.refl _ _⟩
  have hn_f : ¬ (1048576 : Int) < (l_f.length : Int) := by omega
  obtain ⟨r, o, hr, k1, k2⟩ := key_MoveMap q l_f b_f u x y z
  have K1 := Lib.hid k1; clear k1
  have K2 := Lib.hid k2; clear k2
  have HS_f := Lib.hid hs_f; clear hs_f
  have HB0 : Hid (Below w.heap.size w w) := Lib.hid (Below.refl _ _)
  go_enter Try.func10, Try.ntmps10
  go_wp2_with fail
  refine (toIntS_any _ l_f _ (HS_f.out.below HB0.out (Nat.le_refl _)) b_f).mono ?_
  rintro e w1 ⟨v_s_f, rfl, hrw1, hbw1⟩
  have hzw1 : w.heap.size ≤ w1.heap.size := hbw1.size
  have HBw1 : Hid (Below w.heap.size w w1) := Lib.hid (HB0.out.trans (hbw1.mono HB0.out.size))
  have hww1 := HBw1.out.size
  clear hbw1 HB0
  have R_s_f_w1 := Lib.hid hrw1; clear hrw1
  have lt_s_f : Hid (∀ g, v_s_f.ownBlock = some g → w.heap.size ≤ g ∧ g < w1.heap.size) := Lib.hid R_s_f_w1.out.lt
  go_wp2_with fail
  refine (K1.out _ v_s_f R_s_f_w1.out.sl).mono ?_
  rintro e w2 ⟨v_sp, rfl, hrw2, hbw2⟩
  have hzw2 : w1.heap.size ≤ w2.heap.size := hbw2.size
  have R_s_f_w2 := Lib.hid (R_s_f_w1.out.below hbw2)
  clear R_s_f_w1
  have HBw2 : Hid (Below w.heap.size w w2) := Lib.hid (HBw1.out.trans (hbw2.mono HBw1.out.size))
  have hww2 := HBw2.out.size
  clear hbw2 HBw1
  have R_sp_w2 := Lib.hid hrw2; clear hrw2
  have lt_sp : Hid (∀ g, v_sp.ownBlock = some g → w1.heap.size ≤ g ∧ g < w2.heap.size) := Lib.hid R_sp_w2.out.lt
  clear R_s_f_w2 lt_s_f
  go_wp2_with fail
  refine (toIntS_any _ l_f _ (HS_f.out.below HBw2.out (Nat.le_refl _)) b_f).mono ?_
  rintro e w3 ⟨v_x_f, rfl, hrw3, hbw3⟩
  have hzw3 : w2.heap.size ≤ w3.heap.size := hbw3.size
  have R_sp_w3 := Lib.hid (R_sp_w2.out.below hbw3)
  clear R_sp_w2
  have HBw3 : Hid (Below w.heap.size w w3) := Lib.hid (HBw2.out.trans (hbw3.mono HBw2.out.size))
  have hww3 := HBw3.out.size
  clear hbw3 HBw2
  have R_x_f_w3 := Lib.hid hrw3; clear hrw3
  have lt_x_f : Hid (∀ g, v_x_f.ownBlock = some g → w2.heap.size ≤ g ∧ g < w3.heap.size) := Lib.hid R_x_f_w3.out.lt
  go_wp2_with fail
  refine (K2.out _ v_x_f R_x_f_w3.out.sl).mono ?_
  rintro e w4 ⟨v_im, rfl, hrw4, hbw4⟩
  have hzw4 : w3.heap.size ≤ w4.heap.size := hbw4.size
  have R_sp_w4 := Lib.hid (R_sp_w3.out.below hbw4)
  clear R_sp_w3
  have R_x_f_w4 := Lib.hid (R_x_f_w3.out.below hbw4)
  clear R_x_f_w3
  have HBw4 : Hid (Below w.heap.size w w4) := Lib.hid (HBw3.out.trans (hbw4.mono HBw3.out.size))
  have hww4 := HBw4.out.size
  clear hbw4 HBw3
  have R_im_w4 := Lib.hid hrw4; clear hrw4
  have lt_im : Hid (∀ g, v_im.ownBlock = some g → w3.heap.size ≤ g ∧ g < w4.heap.size) := Lib.hid R_im_w4.out.lt
  go_wp2_with fail
  refine (eq_same v_im v_sp r _ _ _ R_im_w4.out R_sp_w4.out (by omega)).mono ?_
  rintro e w5 ⟨rfl, hbw5⟩
  have hzw5 : w4.heap.size ≤ w5.heap.size := hbw5.size
  have R_sp_w5 := Lib.hid (R_sp_w4.out.below hbw5)
  clear R_sp_w4
  have R_x_f_w5 := Lib.hid (R_x_f_w4.out.below hbw5)
  clear R_x_f_w4
  have R_im_w5 := Lib.hid (R_im_w4.out.below hbw5)
  clear R_im_w4
  have HBw5 : Hid (Below w.heap.size w w5) := Lib.hid (HBw4.out.trans (hbw5.mono HBw4.out.size))
  have hww5 := HBw5.out.size
  clear hbw5 HBw4
  go_wp2_with fail
  refine (toIntS_any _ l_f _ (HS_f.out.below HBw5.out (Nat.le_refl _)) b_f).mono ?_
  rintro e w6 ⟨v_y_f, rfl, hrw6, hbw6⟩
  have hzw6 : w5.heap.size ≤ w6.heap.size := hbw6.size
  have R_sp_w6 := Lib.hid (R_sp_w5.out.below hbw6)
  clear R_sp_w5
  have R_x_f_w6 := Lib.hid (R_x_f_w5.out.below hbw6)
  clear R_x_f_w5
  have R_im_w6 := Lib.hid (R_im_w5.out.below hbw6)
  clear R_im_w5
  have HBw6 : Hid (Below w.heap.size w w6) := Lib.hid (HBw5.out.trans (hbw6.mono HBw5.out.size))
  have hww6 := HBw6.out.size
  clear hbw6 HBw5
  have R_y_f_w6 := Lib.hid hrw6; clear hrw6
  have lt_y_f : Hid (∀ g, v_y_f.ownBlock = some g → w5.heap.size ≤ g ∧ g < w6.heap.size) := Lib.hid R_y_f_w6.out.lt
  go_wp2_with fail
  refine (eq_same v_x_f v_y_f l_f _ _ _ R_x_f_w6.out R_y_f_w6.out (by omega)).mono ?_
  rintro e w7 ⟨rfl, hbw7⟩
  have hzw7 : w6.heap.size ≤ w7.heap.size := hbw7.size
  have R_sp_w7 := Lib.hid (R_sp_w6.out.below hbw7)
  clear R_sp_w6
  have R_x_f_w7 := Lib.hid (R_x_f_w6.out.below hbw7)
  clear R_x_f_w6
  have R_im_w7 := Lib.hid (R_im_w6.out.below hbw7)
  clear R_im_w6
  have R_y_f_w7 := Lib.hid (R_y_f_w6.out.below hbw7)
  clear R_y_f_w6
  have HBw7 : Hid (Below w.heap.size w w7) := Lib.hid (HBw6.out.trans (hbw7.mono HBw6.out.size))
  have hww7 := HBw7.out.size
  clear hbw7 HBw6
  clear R_y_f_w7 lt_y_f
  go_wp2_with fail
  refine (mark_any v_x_f l_f _ (1) _ R_x_f_w7.out (by omega) (by omega) (by omega)).mono ?_
  rintro e w8 ⟨rfl, hrw8, hgw8⟩
  have hzw8 : w7.heap.size ≤ w8.heap.size := hgw8.size
  have R_sp_w8 := Lib.hid (R_sp_w7.out.keep (w' := w8) fun g hg => hgw8.block g (R_sp_w7.out.lt g hg).2 fun e => by have h1 := lt_sp.out g hg; have h2 := lt_x_f.out g e.symm; omega)
  clear R_sp_w7
  have R_im_w8 := Lib.hid (R_im_w7.out.keep (w' := w8) fun g hg => hgw8.block g (R_im_w7.out.lt g hg).2 fun e => by have h1 := lt_im.out g hg; have h2 := lt_x_f.out g e.symm; omega)
  clear R_im_w7
  have HBw8 : Hid (Below w.heap.size w w8) := Lib.hid (Below.grown HBw7.out hgw8 (by omega) (fun g e => by have h2 := lt_x_f.out g e; omega))
  have hww8 := HBw8.out.size
  have R_x_f_w8 := Lib.hid hrw8
  clear hrw8 hgw8 HBw7 R_x_f_w7
  clear R_x_f_w8 lt_x_f
  have hpos : ¬ (1 + (l_f.length : Int)) < (0 : Int) := by omega
  go_wp2_with fail
  refine (eq_same v_im v_sp r _ _ _ R_im_w8.out R_sp_w8.out (by omega)).mono ?_
  rintro e w9 ⟨rfl, hbw9⟩
  have hzw9 : w8.heap.size ≤ w9.heap.size := hbw9.size
  have R_sp_w9 := Lib.hid (R_sp_w8.out.below hbw9)
  clear R_sp_w8
  have R_im_w9 := Lib.hid (R_im_w8.out.below hbw9)
  clear R_im_w8
  have HBw9 : Hid (Below w.heap.size w w9) := Lib.hid (HBw8.out.trans (hbw9.mono HBw8.out.size))
  have hww9 := HBw9.out.size
  clear hbw9 HBw8
  go_wp2_with fail
  refine (mark_any v_im r _ (1) _ R_im_w9.out (by omega) (by omega) (by omega)).mono ?_
  rintro e w10 ⟨rfl, hrw10, hgw10⟩
  have hzw10 : w9.heap.size ≤ w10.heap.size := hgw10.size
  have R_sp_w10 := Lib.hid (R_sp_w9.out.keep (w' := w10) fun g hg => hgw10.block g (R_sp_w9.out.lt g hg).2 fun e => by have h1 := lt_sp.out g hg; have h2 := lt_im.out g e.symm; omega)
  clear R_sp_w9
  have HBw10 : Hid (Below w.heap.size w w10) := Lib.hid (Below.grown HBw9.out hgw10 (by omega) (fun g e => by have h2 := lt_im.out g e; omega))
  have hww10 := HBw10.out.size
  have R_im_w10 := Lib.hid hrw10
  clear hrw10 hgw10 HBw9 R_im_w9
  go_wp2_with fail
  refine (held_any v_im r.length _ (1) _ R_im_w10.out (by omega) (by omega) (by omega)).mono ?_
  rintro e wx1 ⟨rfl, rfl⟩
  go_wp2_with fail
  refine (toIntS_any _ l_f _ (HS_f.out.below HBw10.out (Nat.le_refl _)) b_f).mono ?_
  rintro e w11 ⟨v_t_f, rfl, hrw11, hbw11⟩
  have hzw11 : w10.heap.size ≤ w11.heap.size := hbw11.size
  have R_sp_w11 := Lib.hid (R_sp_w10.out.below hbw11)
  clear R_sp_w10
  have R_im_w11 := Lib.hid (R_im_w10.out.below hbw11)
  clear R_im_w10
  have HBw11 : Hid (Below w.heap.size w w11) := Lib.hid (HBw10.out.trans (hbw11.mono HBw10.out.size))
  have hww11 := HBw11.out.size
  clear hbw11 HBw10
  have R_t_f_w11 := Lib.hid hrw11; clear hrw11
  have lt_t_f : Hid (∀ g, v_t_f.ownBlock = some g → w10.heap.size ≤ g ∧ g < w11.heap.size) := Lib.hid R_t_f_w11.out.lt
  go_wp2_with fail
  refine (K2.out _ v_t_f R_t_f_w11.out.sl).mono ?_
  rintro e w12 ⟨v_im2, rfl, hrw12, hbw12⟩
  have hzw12 : w11.heap.size ≤ w12.heap.size := hbw12.size
  have R_sp_w12 := Lib.hid (R_sp_w11.out.below hbw12)
  clear R_sp_w11
  have R_im_w12 := Lib.hid (R_im_w11.out.below hbw12)
  clear R_im_w11
  have R_t_f_w12 := Lib.hid (R_t_f_w11.out.below hbw12)
  clear R_t_f_w11
  have HBw12 : Hid (Below w.heap.size w w12) := Lib.hid (HBw11.out.trans (hbw12.mono HBw11.out.size))
  have hww12 := HBw12.out.size
  clear hbw12 HBw11
  have R_im2_w12 := Lib.hid hrw12; clear hrw12
  have lt_im2 : Hid (∀ g, v_im2.ownBlock = some g → w11.heap.size ≤ g ∧ g < w12.heap.size) := Lib.hid R_im2_w12.out.lt
  clear R_t_f_w12 lt_t_f
  go_wp2_with fail
  refine (eq_same v_im2 v_sp r _ _ _ R_im2_w12.out R_sp_w12.out (by omega)).mono ?_
  rintro e w13 ⟨rfl, hbw13⟩
  have hzw13 : w12.heap.size ≤ w13.heap.size := hbw13.size
  have R_sp_w13 := Lib.hid (R_sp_w12.out.below hbw13)
  clear R_sp_w12
  have R_im_w13 := Lib.hid (R_im_w12.out.below hbw13)
  clear R_im_w12
  have R_im2_w13 := Lib.hid (R_im2_w12.out.below hbw13)
  clear R_im2_w12
  have HBw13 : Hid (Below w.heap.size w w13) := Lib.hid (HBw12.out.trans (hbw13.mono HBw12.out.size))
  have hww13 := HBw13.out.size
  clear hbw13 HBw12
  go_wp2_with fail
  refine (held_any v_im r.length _ (1) _ R_im_w13.out (by omega) (by omega) (by omega)).mono ?_
  rintro e wx2 ⟨rfl, rfl⟩
  go_wp2
  go_ret
  exact ⟨rfl, HBw13.out⟩
end Go.Proofs.Ytgndlpdcebmgmaa
