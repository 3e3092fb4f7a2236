/- impl.element.differenceOf and its closures, by contracts. -/
import Derived.Test.YtgndlpdcebmgmaaSA
import Derived.Test.YtgndlpdcebmgmaaKL
import Derived.Deep.RegionHeld3
import Derived.Laws.EntriesVeiled
namespace Go.Proofs.Ytgndlpdcebmgmaa
open Go.RowKit
set_option maxRecDepth 100000 in
set_option maxHeartbeats 8000000 in
/-- The closure 'at' of impl.element.differenceOf. -/
theorem dAt (m g cap V x : Nat) (y : Int) (w : World) (h : isSz (m : Int) = true) (hx : x < m) (hV : w.cell? ⟨V, 0, none⟩ = some (.slice (some ⟨g, 0, none⟩) m cap)) (he : w.cell? ⟨g, x * 7, none⟩ = some (.int .i64 m) ∧ w.cell? ⟨g, x * 7 + 1, none⟩ = some (.int .i64 (pr m)) ∧ w.cell? ⟨g, x * 7 + 2, none⟩ = some (.int .i64 (pl m)) ∧ w.cell? ⟨g, x * 7 + 3, none⟩ = some (.int .i64 (dg m y 0)) ∧ w.cell? ⟨g, x * 7 + 4, none⟩ = some (.int .i64 (dg m y 1)) ∧ w.cell? ⟨g, x * 7 + 5, none⟩ = some (.int .i64 (dg m y 2)) ∧ w.cell? ⟨g, x * 7 + 6, none⟩ = some (.int .i64 (dg m y 3))) :
    Calls Try.prog 110 #[elE (m : Int) (x : Int), .pointer (some ⟨V, 0, none⟩)] w fun e w' => e = .returned (elE (m : Int) y) ∧ Below w.heap.size w w' := by
  have hq := isSz_le (m : Int) h
  have HN := Lib.hid (fun w => numberE (m : Int) (x : Int) w h (by omega) (by omega))
  have lV := World.block_lt_of_cell? w _ hV
  obtain ⟨e0, e1, e2, e3, e4, e5, e6⟩ := he
  have lg := World.block_lt_of_cell? w _ e0
  simp only at lV lg
  have HKEEP : Hid (∀ w', Below (w.heap.size + 1) (w.alloc (eblk (m : Int) (x : Int))) w' → w'.cell? ⟨V, 0, none⟩ = some (.slice (some ⟨g, 0, none⟩) m cap) ∧ w'.cell? ⟨w.heap.size, 0, none⟩ = some (.int .i64 m) ∧ w'.cell? ⟨w.heap.size, 1, none⟩ = some (.int .i64 (pr m)) ∧ w'.cell? ⟨w.heap.size, 2, none⟩ = some (.int .i64 (pl m)) ∧ w'.cell? ⟨w.heap.size, 3, none⟩ = some (.int .i64 (dg m x 0)) ∧ w'.cell? ⟨w.heap.size, 4, none⟩ = some (.int .i64 (dg m x 1)) ∧ w'.cell? ⟨w.heap.size, 5, none⟩ = some (.int .i64 (dg m x 2)) ∧ w'.cell? ⟨w.heap.size, 6, none⟩ = some (.int .i64 (dg m x 3)) ∧ w'.cell? ⟨g, x * 7, none⟩ = some (.int .i64 m) ∧ w'.cell? ⟨g, x * 7 + 1, none⟩ = some (.int .i64 (pr m)) ∧ w'.cell? ⟨g, x * 7 + 2, none⟩ = some (.int .i64 (pl m)) ∧ w'.cell? ⟨g, x * 7 + 3, none⟩ = some (.int .i64 (dg m y 0)) ∧ w'.cell? ⟨g, x * 7 + 4, none⟩ = some (.int .i64 (dg m y 1)) ∧ w'.cell? ⟨g, x * 7 + 5, none⟩ = some (.int .i64 (dg m y 2)) ∧ w'.cell? ⟨g, x * 7 + 6, none⟩ = some (.int .i64 (dg m y 3))) := Lib.hid fun w' hb => by
    have hbw : Below w.heap.size w w' := by (repeat' (first | (with_reducible assumption) | (with_reducible exact Below.refl _ _) | (with_reducible refine below_drewN ?_ _) | (with_reducible refine Below.drew ?_) | (with_reducible refine Below.alloc ?_ ?_ _) | (with_reducible refine Below.setCell ?_ ?_ _) | (with_reducible refine Below.trans ?_ (Below.mono (by assumption) ?_)) | (with_reducible exact Nat.le_refl _) | (with_reducible assumption) | omega | (simp; omega) | (simp; done)))
    obtain ⟨y0, y1, y2, y3, y4, y5, y6, _⟩ := seven ((hb.block _ (by omega)).trans (heap_alloc_new w (eblk (m : Int) (x : Int))))
    have hc : ∀ o v, w.cell? ⟨g, o, none⟩ = some v → w'.cell? ⟨g, o, none⟩ = some v := fun o v hh => (hbw.cell (p := ⟨g, o, none⟩) lg).trans hh
    exact ⟨(hbw.cell (p := ⟨V, 0, none⟩) lV).trans hV, y0, y1, y2, y3, y4, y5, y6, hc _ _ e0, hc _ _ e1, hc _ _ e2, hc _ _ e3, hc _ _ e4, hc _ _ e5, hc _ _ e6⟩
  clear h hV e0 e1 e2 e3 e4 e5 e6
  go_enter Try.func110, Try.ntmps110
  go_wp2_with fail
  have HT := Lib.hid (two w (eblk (m : Int) (x : Int)) zeroblk)
  go_region_held3 (fun w' => w'.cell? ⟨V, 0, none⟩ = some (.slice (some ⟨g, 0, none⟩) m cap) ∧ w'.cell? ⟨w.heap.size, 0, none⟩ = some (.int .i64 m) ∧ w'.cell? ⟨w.heap.size, 1, none⟩ = some (.int .i64 (pr m)) ∧ w'.cell? ⟨w.heap.size, 2, none⟩ = some (.int .i64 (pl m)) ∧ w'.cell? ⟨w.heap.size, 3, none⟩ = some (.int .i64 (dg m x 0)) ∧ w'.cell? ⟨w.heap.size, 4, none⟩ = some (.int .i64 (dg m x 1)) ∧ w'.cell? ⟨w.heap.size, 5, none⟩ = some (.int .i64 (dg m x 2)) ∧ w'.cell? ⟨w.heap.size, 6, none⟩ = some (.int .i64 (dg m x 3)) ∧ w'.cell? ⟨g, x * 7, none⟩ = some (.int .i64 m) ∧ w'.cell? ⟨g, x * 7 + 1, none⟩ = some (.int .i64 (pr m)) ∧ w'.cell? ⟨g, x * 7 + 2, none⟩ = some (.int .i64 (pl m)) ∧ w'.cell? ⟨g, x * 7 + 3, none⟩ = some (.int .i64 (dg m y 0)) ∧ w'.cell? ⟨g, x * 7 + 4, none⟩ = some (.int .i64 (dg m y 1)) ∧ w'.cell? ⟨g, x * 7 + 5, none⟩ = some (.int .i64 (dg m y 2)) ∧ w'.cell? ⟨g, x * 7 + 6, none⟩ = some (.int .i64 (dg m y 3)))
    (exact HKEEP.out _ (by (try have hb3 := HB3.out); (repeat' (first | (with_reducible assumption) | (with_reducible exact Below.refl _ _) | (with_reducible refine below_drewN ?_ _) | (with_reducible refine Below.drew ?_) | (with_reducible refine Below.alloc ?_ ?_ _) | (with_reducible refine Below.setCell ?_ ?_ _) | (with_reducible refine Below.trans ?_ (Below.mono (by assumption) ?_)) | (with_reducible exact Nat.le_refl _) | (with_reducible assumption) | omega | (simp; omega) | (simp; done)))))
    (first
    | (go_at_call 72; refine (HN.out _).mono ?_; rintro e w3 ⟨rfl, hb3⟩; obtain ⟨hc3, hf3⟩ := bcell hb3; (try simp only [World.size_drew] at hc3 hf3); have hz3 := hb3.size; (try simp at hz3); have HB3 := Lib.hid hb3; clear hb3; have l3 : w.heap.size + 1 < w3.heap.size := (by omega); have hr4 : w3.heap[w.heap.size + 1]? = some zeroblk := (Below.block (B := w.heap.size + 2) (w := (w.alloc (eblk (m : Int) (x : Int))).alloc zeroblk) (by have hb3 := HB3.out; (repeat' (first | (with_reducible assumption) | (with_reducible exact Below.refl _ _) | (with_reducible refine below_drewN ?_ _) | (with_reducible refine Below.drew ?_) | (with_reducible refine Below.alloc ?_ ?_ _) | (with_reducible refine Below.setCell ?_ ?_ _) | (with_reducible refine Below.trans ?_ (Below.mono (by assumption) ?_)) | (with_reducible exact Nat.le_refl _) | (with_reducible assumption) | omega | (simp; omega) | (simp; done)))) _ (by omega)).trans HT.out.2; obtain ⟨q0, q1, q2, q3, q4, q5, q6, qf, ql⟩ := seven hr4))
  all_goals
    go_wp2_with fail
    have hb3 := HB3.out
    have hbr : Below (w.heap.size + 2) ((w.alloc (eblk (m : Int) (x : Int))).alloc zeroblk) w3 := by (repeat' (first | (with_reducible assumption) | (with_reducible exact Below.refl _ _) | (with_reducible refine below_drewN ?_ _) | (with_reducible refine Below.drew ?_) | (with_reducible refine Below.alloc ?_ ?_ _) | (with_reducible refine Below.setCell ?_ ?_ _) | (with_reducible refine Below.trans ?_ (Below.mono (by assumption) ?_)) | (with_reducible exact Nat.le_refl _) | (with_reducible assumption) | omega | (simp; omega) | (simp; done)))
    have hr : w3.heap[w.heap.size + 1]? = some zeroblk := (hbr.block _ (by omega)).trans HT.out.2
    obtain ⟨r0, r1, r2, r3, r4, r5, r6, rf, rl⟩ := seven hr
    refine bodyPost_ret (v := elE (m : Int) y) (by simp [results, Try.results110, go_sem, r0, r1, r2, r3, r4, r5, r6]) rfl ⟨rfl, ?_⟩
    (repeat' (first | (with_reducible assumption) | (with_reducible exact Below.refl _ _) | (with_reducible refine below_drewN ?_ _) | (with_reducible refine Below.drew ?_) | (with_reducible refine Below.alloc ?_ ?_ _) | (with_reducible refine Below.setCell ?_ ?_ _) | (with_reducible refine Below.trans ?_ (Below.mono (by assumption) ?_)) | (with_reducible exact Nat.le_refl _) | (with_reducible assumption) | omega | (simp; omega) | (simp; done)))
set_option maxRecDepth 100000 in
set_option maxHeartbeats 8000000 in
/-- The closure that takes the difference at an element. -/
theorem dDif (m g cap KA KB V a x s : Nat) (t : Nat → Int) (w : World) (h : isSz (m : Int) = true) (ha : a < m) (hx : x < m) (hsm : s < m) (hs : addF m x a = (s : Int)) (ht : ∀ i, i < m → El (m : Int) (t i)) (hA : w.cell? ⟨KA, 0, none⟩ = some (.func (.func 110) #[] #[.pointer (some ⟨V, 0, none⟩)])) (hV : w.cell? ⟨V, 0, none⟩ = some (.slice (some ⟨g, 0, none⟩) m cap)) (hB : w.heap[KB]? = some (eblk (m : Int) (a : Int))) (hg : g < w.heap.size) (he : Els w g (m : Int) t m) :
    Calls Try.prog 111 #[elE (m : Int) (x : Int), .pointer (some ⟨KA, 0, none⟩), .pointer (some ⟨KB, 0, none⟩)] w fun e w' => e = .returned (elE (m : Int) (subF m (t s) (t x))) ∧ Below w.heap.size w w' := by
  have hq := isSz_le (m : Int) h
  have lA := World.block_lt_of_cell? w _ hA
  have lV := World.block_lt_of_cell? w _ hV
  simp only at lV lA
  have lB := (Array.getElem?_eq_some_iff.1 hB).1
  have HP := Lib.hid (fun w => by
    have := plusE (m : Int) (x : Int) (a : Int) w h (by omega) (by omega) (by omega) (by omega)
    rw [hs] at this
    exact this)
  have HM := Lib.hid (fun w => minusE (m : Int) (t s) (t x) w h (ht s hsm).1 (ht s hsm).2 (ht x hx).1 (ht x hx).2)
  have HAT := Lib.hid (fun (x : Nat) (hx : x < m) w' (hb : Below w.heap.size w w') => dAt m g cap V x (t x) w' h hx ((hb.cell (p := ⟨V, 0, none⟩) lV).trans hV) ((he.below hb hg) x hx))
  have HATs := Lib.hid (HAT.out s hsm)
  have HATx := Lib.hid (HAT.out x hx)
  have HKEEP : Hid (∀ w', Below (w.heap.size + 1) (w.alloc (eblk (m : Int) (x : Int))) w' → w'.cell? ⟨KA, 0, none⟩ = some (.func (.func 110) #[] #[.pointer (some ⟨V, 0, none⟩)]) ∧ w'.cell? ⟨w.heap.size, 0, none⟩ = some (.int .i64 m) ∧ w'.cell? ⟨w.heap.size, 1, none⟩ = some (.int .i64 (pr m)) ∧ w'.cell? ⟨w.heap.size, 2, none⟩ = some (.int .i64 (pl m)) ∧ w'.cell? ⟨w.heap.size, 3, none⟩ = some (.int .i64 (dg m x 0)) ∧ w'.cell? ⟨w.heap.size, 4, none⟩ = some (.int .i64 (dg m x 1)) ∧ w'.cell? ⟨w.heap.size, 5, none⟩ = some (.int .i64 (dg m x 2)) ∧ w'.cell? ⟨w.heap.size, 6, none⟩ = some (.int .i64 (dg m x 3)) ∧ w'.cell? ⟨KB, 0, none⟩ = some (.int .i64 m) ∧ w'.cell? ⟨KB, 1, none⟩ = some (.int .i64 (pr m)) ∧ w'.cell? ⟨KB, 2, none⟩ = some (.int .i64 (pl m)) ∧ w'.cell? ⟨KB, 3, none⟩ = some (.int .i64 (dg m a 0)) ∧ w'.cell? ⟨KB, 4, none⟩ = some (.int .i64 (dg m a 1)) ∧ w'.cell? ⟨KB, 5, none⟩ = some (.int .i64 (dg m a 2)) ∧ w'.cell? ⟨KB, 6, none⟩ = some (.int .i64 (dg m a 3))) := Lib.hid fun w' hb => by
    have hbw : Below w.heap.size w w' := by (repeat' (first | (with_reducible assumption) | (with_reducible exact Below.refl _ _) | (with_reducible refine below_drewN ?_ _) | (with_reducible refine Below.drew ?_) | (with_reducible refine Below.alloc ?_ ?_ _) | (with_reducible refine Below.setCell ?_ ?_ _) | (with_reducible refine Below.trans ?_ (Below.mono (by assumption) ?_)) | (with_reducible exact Nat.le_refl _) | (with_reducible assumption) | omega | (simp; omega) | (simp; done)))
    obtain ⟨x0, x1, x2, x3, x4, x5, x6, _⟩ := seven ((hb.block _ (by omega)).trans (heap_alloc_new w (eblk (m : Int) (x : Int))))
    obtain ⟨y0, y1, y2, y3, y4, y5, y6, _⟩ := seven ((hbw.block _ lB).trans hB)
    exact ⟨(hbw.cell (p := ⟨KA, 0, none⟩) lA).trans hA, x0, x1, x2, x3, x4, x5, x6, y0, y1, y2, y3, y4, y5, y6⟩
  clear h ht hV hA hB he HAT hs
  generalize t s = Z at *
  generalize t x = X at *
  generalize subF m Z X = D at *
  go_enter Try.func111, Try.ntmps111
  go_wp2_with fail
  have HT := Lib.hid (two w (eblk (m : Int) (x : Int)) zeroblk)
  go_region_held3 (fun w' => w'.cell? ⟨KA, 0, none⟩ = some (.func (.func 110) #[] #[.pointer (some ⟨V, 0, none⟩)]) ∧ w'.cell? ⟨w.heap.size, 0, none⟩ = some (.int .i64 m) ∧ w'.cell? ⟨w.heap.size, 1, none⟩ = some (.int .i64 (pr m)) ∧ w'.cell? ⟨w.heap.size, 2, none⟩ = some (.int .i64 (pl m)) ∧ w'.cell? ⟨w.heap.size, 3, none⟩ = some (.int .i64 (dg m x 0)) ∧ w'.cell? ⟨w.heap.size, 4, none⟩ = some (.int .i64 (dg m x 1)) ∧ w'.cell? ⟨w.heap.size, 5, none⟩ = some (.int .i64 (dg m x 2)) ∧ w'.cell? ⟨w.heap.size, 6, none⟩ = some (.int .i64 (dg m x 3)) ∧ w'.cell? ⟨KB, 0, none⟩ = some (.int .i64 m) ∧ w'.cell? ⟨KB, 1, none⟩ = some (.int .i64 (pr m)) ∧ w'.cell? ⟨KB, 2, none⟩ = some (.int .i64 (pl m)) ∧ w'.cell? ⟨KB, 3, none⟩ = some (.int .i64 (dg m a 0)) ∧ w'.cell? ⟨KB, 4, none⟩ = some (.int .i64 (dg m a 1)) ∧ w'.cell? ⟨KB, 5, none⟩ = some (.int .i64 (dg m a 2)) ∧ w'.cell? ⟨KB, 6, none⟩ = some (.int .i64 (dg m a 3)))
    (exact HKEEP.out _ (by (try have hb3 := HB3.out); (try have hb4 := HB4.out); (try have hb5 := HB5.out); (try have hb6 := HB6.out); (repeat' (first | (with_reducible assumption) | (with_reducible exact Below.refl _ _) | (with_reducible refine below_drewN ?_ _) | (with_reducible refine Below.drew ?_) | (with_reducible refine Below.alloc ?_ ?_ _) | (with_reducible refine Below.setCell ?_ ?_ _) | (with_reducible refine Below.trans ?_ (Below.mono (by assumption) ?_)) | (with_reducible exact Nat.le_refl _) | (with_reducible assumption) | omega | (simp; omega) | (simp; done)))))
    (first
    | (go_at_call 112; refine (HP.out _).mono ?_; rintro e w3 ⟨rfl, hb3⟩; obtain ⟨hc3, hf3⟩ := bcell hb3; (try simp only [World.size_drew] at hc3 hf3); have hz3 := hb3.size; (try simp at hz3); have HB3 := Lib.hid hb3; clear hb3)
    | (go_at_call_of 110 (elE (m : Int) (s : Int)); refine (HATs.out _ (by (try have hb3 := HB3.out); (try have hb5 := HB5.out); (repeat' (first | (with_reducible assumption) | (with_reducible exact Below.refl _ _) | (with_reducible refine below_drewN ?_ _) | (with_reducible refine Below.drew ?_) | (with_reducible refine Below.alloc ?_ ?_ _) | (with_reducible refine Below.setCell ?_ ?_ _) | (with_reducible refine Below.trans ?_ (Below.mono (by assumption) ?_)) | (with_reducible exact Nat.le_refl _) | (with_reducible assumption) | omega | (simp; omega) | (simp; done))))).mono ?_; rintro e w4 ⟨rfl, hb4⟩; obtain ⟨hc4, hf4⟩ := bcell hb4; (try simp only [World.size_drew] at hc4 hf4); have hz4 := hb4.size; (try simp at hz4); have HB4 := Lib.hid hb4; clear hb4)
    | (go_at_call_of 110 (dg (m : Int) (x : Int) 0); refine (HATx.out _ (by (try have hb3 := HB3.out); (try have hb4 := HB4.out); (repeat' (first | (with_reducible assumption) | (with_reducible exact Below.refl _ _) | (with_reducible refine below_drewN ?_ _) | (with_reducible refine Below.drew ?_) | (with_reducible refine Below.alloc ?_ ?_ _) | (with_reducible refine Below.setCell ?_ ?_ _) | (with_reducible refine Below.trans ?_ (Below.mono (by assumption) ?_)) | (with_reducible exact Nat.le_refl _) | (with_reducible assumption) | omega | (simp; omega) | (simp; done))))).mono ?_; rintro e w5 ⟨rfl, hb5⟩; obtain ⟨hc5, hf5⟩ := bcell hb5; (try simp only [World.size_drew] at hc5 hf5); have hz5 := hb5.size; (try simp at hz5); have HB5 := Lib.hid hb5; clear hb5)
    | (go_at_call 113; refine (HM.out _).mono ?_; rintro e w6 ⟨rfl, hb6⟩; obtain ⟨hc6, hf6⟩ := bcell hb6; (try simp only [World.size_drew] at hc6 hf6); have hz6 := hb6.size; (try simp at hz6); have HB6 := Lib.hid hb6; clear hb6; have l6 : w.heap.size + 1 < w6.heap.size := (by omega); have hr6 : w6.heap[w.heap.size + 1]? = some zeroblk := (Below.block (B := w.heap.size + 2) (w := (w.alloc (eblk (m : Int) (x : Int))).alloc zeroblk) (by have hb3 := HB3.out; have hb4 := HB4.out; have hb5 := HB5.out; have hb6 := HB6.out; (repeat' (first | (with_reducible assumption) | (with_reducible exact Below.refl _ _) | (with_reducible refine below_drewN ?_ _) | (with_reducible refine Below.drew ?_) | (with_reducible refine Below.alloc ?_ ?_ _) | (with_reducible refine Below.setCell ?_ ?_ _) | (with_reducible refine Below.trans ?_ (Below.mono (by assumption) ?_)) | (with_reducible exact Nat.le_refl _) | (with_reducible assumption) | omega | (simp; omega) | (simp; done)))) _ (by omega)).trans HT.out.2; obtain ⟨q0, q1, q2, q3, q4, q5, q6, qf, ql⟩ := seven hr6))
  all_goals
    go_wp2_with fail
    have hb3 := HB3.out
    have hb4 := HB4.out
    have hb5 := HB5.out
    have hb6 := HB6.out
    have hbr : Below (w.heap.size + 2) ((w.alloc (eblk (m : Int) (x : Int))).alloc zeroblk) w6 := by (repeat' (first | (with_reducible assumption) | (with_reducible exact Below.refl _ _) | (with_reducible refine below_drewN ?_ _) | (with_reducible refine Below.drew ?_) | (with_reducible refine Below.alloc ?_ ?_ _) | (with_reducible refine Below.setCell ?_ ?_ _) | (with_reducible refine Below.trans ?_ (Below.mono (by assumption) ?_)) | (with_reducible exact Nat.le_refl _) | (with_reducible assumption) | omega | (simp; omega) | (simp; done)))
    have hr : w6.heap[w.heap.size + 1]? = some zeroblk := (hbr.block _ (by omega)).trans HT.out.2
    obtain ⟨r0, r1, r2, r3, r4, r5, r6, rf, rl⟩ := seven hr
    refine bodyPost_ret (v := elE (m : Int) D) (by simp [results, Try.results111, go_sem, r0, r1, r2, r3, r4, r5, r6]) rfl ⟨rfl, ?_⟩
    (repeat' (first | (with_reducible assumption) | (with_reducible exact Below.refl _ _) | (with_reducible refine below_drewN ?_ _) | (with_reducible refine Below.drew ?_) | (with_reducible refine Below.alloc ?_ ?_ _) | (with_reducible refine Below.setCell ?_ ?_ _) | (with_reducible refine Below.trans ?_ (Below.mono (by assumption) ?_)) | (with_reducible exact Nat.le_refl _) | (with_reducible assumption) | omega | (simp; omega) | (simp; done)))
set_option maxHeartbeats 2000000 in
/-- The closure of impl.mapped over elements, at that closure. -/
theorem clo_dif (q x y : Int) (KA KB i n g cap A0 A1 : Nat) (w : World) (hin : i < n)
    (HX : ∀ w', Below w.heap.size w w' → Calls Try.prog 111 #[elE q x, .pointer (some ⟨KA, 0, none⟩), .pointer (some ⟨KB, 0, none⟩)] w' fun e w'' => e = .returned (elE q y) ∧ Below w'.heap.size w' w'')
    (hc : w.cell? ⟨A0, 0, none⟩ = some (.func (.func 111) #[] #[.pointer (some ⟨KA, 0, none⟩), .pointer (some ⟨KB, 0, none⟩)]) ∧ w.cell? ⟨A1, 0, none⟩ = some (.slice (some ⟨g, 0, none⟩) n cap) ∧ w.cell? ⟨g, i * 7, none⟩ = some (.int .i64 q) ∧ w.cell? ⟨g, i * 7 + 1, none⟩ = some (.int .i64 (pr q)) ∧ w.cell? ⟨g, i * 7 + 2, none⟩ = some (.int .i64 (pl q)) ∧ w.cell? ⟨g, i * 7 + 3, none⟩ = some (.int .i64 (dg q x 0)) ∧ w.cell? ⟨g, i * 7 + 4, none⟩ = some (.int .i64 (dg q x 1)) ∧ w.cell? ⟨g, i * 7 + 5, none⟩ = some (.int .i64 (dg q x 2)) ∧ w.cell? ⟨g, i * 7 + 6, none⟩ = some (.int .i64 (dg q x 3))) :
    Calls Try.prog 117 #[.int .i64 i, .pointer (some ⟨A0, 0, none⟩), .pointer (some ⟨A1, 0, none⟩)] w fun e w' => e = .returned (elE q y) ∧ Below w.heap.size w w' := by
  have HXX := Lib.hid HX; clear HX
  obtain ⟨c0, c1, e0, e1, e2, e3, e4, e5, e6⟩ := hc
  have l0 := World.block_lt_of_cell? w _ c0
  have l1 := World.block_lt_of_cell? w _ c1
  have l2 := World.block_lt_of_cell? w _ e0
  simp only at l0 l1 l2
  have HKEEP : Hid (∀ w', Below w.heap.size w w' → w'.cell? ⟨A0, 0, none⟩ = some (.func (.func 111) #[] #[.pointer (some ⟨KA, 0, none⟩), .pointer (some ⟨KB, 0, none⟩)]) ∧ w'.cell? ⟨A1, 0, none⟩ = some (.slice (some ⟨g, 0, none⟩) n cap) ∧ w'.cell? ⟨g, i * 7, none⟩ = some (.int .i64 q) ∧ w'.cell? ⟨g, i * 7 + 1, none⟩ = some (.int .i64 (pr q)) ∧ w'.cell? ⟨g, i * 7 + 2, none⟩ = some (.int .i64 (pl q)) ∧ w'.cell? ⟨g, i * 7 + 3, none⟩ = some (.int .i64 (dg q x 0)) ∧ w'.cell? ⟨g, i * 7 + 4, none⟩ = some (.int .i64 (dg q x 1)) ∧ w'.cell? ⟨g, i * 7 + 5, none⟩ = some (.int .i64 (dg q x 2)) ∧ w'.cell? ⟨g, i * 7 + 6, none⟩ = some (.int .i64 (dg q x 3))) := Lib.hid fun w' hb => by
    exact ⟨(hb.cell (p := ⟨A0, 0, none⟩) l0).trans c0, (hb.cell (p := ⟨A1, 0, none⟩) l1).trans c1, (hb.cell (p := ⟨g, i * 7, none⟩) l2).trans e0, (hb.cell (p := ⟨g, i * 7 + 1, none⟩) l2).trans e1, (hb.cell (p := ⟨g, i * 7 + 2, none⟩) l2).trans e2, (hb.cell (p := ⟨g, i * 7 + 3, none⟩) l2).trans e3, (hb.cell (p := ⟨g, i * 7 + 4, none⟩) l2).trans e4, (hb.cell (p := ⟨g, i * 7 + 5, none⟩) l2).trans e5, (hb.cell (p := ⟨g, i * 7 + 6, none⟩) l2).trans e6⟩
  go_enter Try.func117, Try.ntmps117
  go_wp2_with fail
  go_region_held3 (fun w' => w'.cell? ⟨A0, 0, none⟩ = some (.func (.func 111) #[] #[.pointer (some ⟨KA, 0, none⟩), .pointer (some ⟨KB, 0, none⟩)]) ∧ w'.cell? ⟨A1, 0, none⟩ = some (.slice (some ⟨g, 0, none⟩) n cap) ∧ w'.cell? ⟨g, i * 7, none⟩ = some (.int .i64 q) ∧ w'.cell? ⟨g, i * 7 + 1, none⟩ = some (.int .i64 (pr q)) ∧ w'.cell? ⟨g, i * 7 + 2, none⟩ = some (.int .i64 (pl q)) ∧ w'.cell? ⟨g, i * 7 + 3, none⟩ = some (.int .i64 (dg q x 0)) ∧ w'.cell? ⟨g, i * 7 + 4, none⟩ = some (.int .i64 (dg q x 1)) ∧ w'.cell? ⟨g, i * 7 + 5, none⟩ = some (.int .i64 (dg q x 2)) ∧ w'.cell? ⟨g, i * 7 + 6, none⟩ = some (.int .i64 (dg q x 3)))
    (exact HKEEP.out _ (by (try have hb1 := HB1.out); (repeat' (first | (with_reducible assumption) | (with_reducible exact Below.refl _ _) | (with_reducible refine below_drewN ?_ _) | (with_reducible refine Below.drew ?_) | (with_reducible refine Below.alloc ?_ ?_ _) | (with_reducible refine Below.setCell ?_ ?_ _) | (with_reducible refine Below.trans ?_ (Below.mono (by assumption) ?_)) | (with_reducible exact Nat.le_refl _) | (with_reducible assumption) | omega | (simp; omega) | (simp; done)))))
    (first | (go_at_call 111; refine (HXX.out _ (by (repeat' (first | (with_reducible assumption) | (with_reducible exact Below.refl _ _) | (with_reducible refine below_drewN ?_ _) | (with_reducible refine Below.drew ?_) | (with_reducible refine Below.alloc ?_ ?_ _) | (with_reducible refine Below.setCell ?_ ?_ _) | (with_reducible refine Below.trans ?_ (Below.mono (by assumption) ?_)) | (with_reducible exact Nat.le_refl _) | (with_reducible assumption) | omega | (simp; omega) | (simp; done))))).mono ?_; rintro e w1 ⟨rfl, hb1⟩; obtain ⟨hc1, hf1⟩ := bcell hb1; (try simp only [World.size_drew] at hc1 hf1); have hz1 := hb1.size; (try simp at hz1); have HB1 := Lib.hid hb1; clear hb1; have l3 : w.heap.size < w1.heap.size := (by omega)))
  all_goals
    go_wp2_with fail
    have hb1 := HB1.out
    have q0 : w1.heap[w.heap.size]? = some zeroblk := (hb1.block _ (by simp)).trans (heap_alloc_new w _)
    obtain ⟨s0, s1, s2, s3, s4, s5, s6, sf, sl⟩ := seven q0
    clear q0
    refine bodyPost_ret (v := elE q y) (by simp [results, Try.results117, go_sem, s0, s1, s2, s3, s4, s5, s6]) rfl ⟨rfl, ?_⟩
    (repeat' (first | (with_reducible assumption) | (with_reducible exact Below.refl _ _) | (with_reducible refine below_drewN ?_ _) | (with_reducible refine Below.drew ?_) | (with_reducible refine Below.alloc ?_ ?_ _) | (with_reducible refine Below.setCell ?_ ?_ _) | (with_reducible refine Below.trans ?_ (Below.mono (by assumption) ?_)) | (with_reducible exact Nat.le_refl _) | (with_reducible assumption) | omega | (simp; omega) | (simp; done)))
set_option maxHeartbeats 2000000 in
/-- impl.mapped over elements, at that closure. -/
theorem mapped_dif (q : Int) (KA KB : Nat) (v : Value) (f f2 : Nat → Int) (n : Nat) (w : World) (hv : Se w v q f n) (hl : n ≤ 1000)
    (HC : ∀ i, i < n → ∀ w', Below w.heap.size w w' → Calls Try.prog 111 #[elE q (f i), .pointer (some ⟨KA, 0, none⟩), .pointer (some ⟨KB, 0, none⟩)] w' fun e w'' => e = .returned (elE q (f2 i)) ∧ Below w'.heap.size w' w'') :
    Calls Try.prog 74 #[v, .func (.func 111) #[] #[.pointer (some ⟨KA, 0, none⟩), .pointer (some ⟨KB, 0, none⟩)]] w fun e w' => ∃ g, e = .returned (.slice (some ⟨g, 0, none⟩) n n) ∧ w.heap.size ≤ g ∧ Blk w' g n ∧ Els w' g q f2 n ∧ Below w.heap.size w w' := by
  obtain ⟨g, cap, rfl, hg, he⟩ := hv
  have HX : Hid (∀ (T1 T2 : TypeId) (i : Nat) w', i < n → Below ((w.alloc (.cells #[.slice (some ⟨g, 0, none⟩) n cap] T1)).alloc (.cells #[.func (.func 111) #[] #[.pointer (some ⟨KA, 0, none⟩), .pointer (some ⟨KB, 0, none⟩)]] T2)).heap.size ((w.alloc (.cells #[.slice (some ⟨g, 0, none⟩) n cap] T1)).alloc (.cells #[.func (.func 111) #[] #[.pointer (some ⟨KA, 0, none⟩), .pointer (some ⟨KB, 0, none⟩)]] T2)) w' →
      Calls Try.prog 117 #[.int .i64 i, .pointer (some ⟨w.heap.size + 1, 0, none⟩), .pointer (some ⟨w.heap.size, 0, none⟩)] w' fun e w'' => e = .returned (elE q (f2 i)) ∧ Below w'.heap.size w' w'') := Lib.hid fun T1 T2 i w' hi hb => by
    have hbw : Below w.heap.size w w' := by (repeat' (first | (with_reducible assumption) | (with_reducible exact Below.refl _ _) | (with_reducible refine below_drewN ?_ _) | (with_reducible refine Below.drew ?_) | (with_reducible refine Below.alloc ?_ ?_ _) | (with_reducible refine Below.setCell ?_ ?_ _) | (with_reducible refine Below.trans ?_ (Below.mono (by assumption) ?_)) | (with_reducible exact Nat.le_refl _) | (with_reducible assumption) | omega | (simp; omega) | (simp; done)))
    obtain ⟨t0, t1⟩ := two w (.cells #[.slice (some ⟨g, 0, none⟩) n cap] T1) (.cells #[.func (.func 111) #[] #[.pointer (some ⟨KA, 0, none⟩), .pointer (some ⟨KB, 0, none⟩)]] T2)
    exact clo_dif q _ _ KA KB i n g cap _ _ w' hi (fun w'' hb'' => HC i hi w'' (hbw.trans (hb''.mono hbw.size)))
      ⟨at_box (T := T2) ((hb.block _ (by simp)).trans t1), at_box (T := T1) ((hb.block _ (by simp; omega)).trans t0), (he.below hbw hg) i hi⟩
  clear HC he
  go_enter Try.func74, Try.ntmps74
  go_wp2_with fail
  refine (listOf_EE q n f2 (w.heap.size + 1) w.heap.size _ hl (HX.out _ _)).mono ?_
  rintro e w1 ⟨rfl, hk1, he1, hb1⟩
  have HK := Lib.hid hk1; clear hk1
  have HE := Lib.hid he1; clear he1
  have HB1 := Lib.hid hb1; clear hb1
  go_wp2
  go_ret
  have hb1 := HB1.out
  exact ⟨_, rfl, by omega, by simpa using HK.out, by simpa using HE.out, by (repeat' (first | (with_reducible assumption) | (with_reducible exact Below.refl _ _) | (with_reducible refine below_drewN ?_ _) | (with_reducible refine Below.drew ?_) | (with_reducible refine Below.alloc ?_ ?_ _) | (with_reducible refine Below.setCell ?_ ?_ _) | (with_reducible refine Below.trans ?_ (Below.mono (by assumption) ?_)) | (with_reducible exact Nat.le_refl _) | (with_reducible assumption) | omega | (simp; omega) | (simp; done)))⟩
set_option maxRecDepth 100000 in
set_option maxHeartbeats 8000000 in
/-- impl.element.differenceOf. -/
theorem differenceOfE (m a g cap : Nat) (t : Nat → Int) (w : World) (h : isSz (m : Int) = true) (ha : a < m) (hg : g < w.heap.size) (he : Els w g (m : Int) t m) (ht : ∀ i, i < m → El (m : Int) (t i)) :
    Calls Try.prog 70 #[elE (m : Int) (a : Int), .slice (some ⟨g, 0, none⟩) m cap] w fun e w' => ∃ g', e = .returned (.slice (some ⟨g', 0, none⟩) m m) ∧ w.heap.size ≤ g' ∧ Blk w' g' m ∧ Els w' g' (m : Int) (dft m t a) m ∧ Below w.heap.size w w' := by
  have hq := isSz_le (m : Int) h
  have HE := Lib.hid (fun w => elements_any (m : Int) w h)
  rw [Int.toNat_natCast] at HE
  have HC := Lib.hid (fun (x : Nat) (hx : x < m) KA KB V w' hA hV hB (hb : Below w.heap.size w w') => by
    have h1 := El.add h (El.nat hx) (El.nat ha)
    obtain ⟨s, hs⟩ := Int.eq_ofNat_of_zero_le h1.1
    have := dDif m g cap KA KB V a x s t w' h ha hx (by have := h1.2; omega) hs ht hA hV hB (by have := hb.size; omega) (he.below hb hg)
    rw [show subF m (t s) (t x) = dft m t a x by unfold dft; rw [hs, Int.toNat_natCast]] at this
    exact this)
  clear h he ht
  generalize dft m t a = D at *
  go_enter Try.func70, Try.ntmps70
  have HT := Lib.hid (three w (eblk (m : Int) (a : Int)) (.cells #[.slice (some ⟨g, 0, none⟩) m cap] 43) (.cells #[.func (.func 110) #[] #[.pointer (some ⟨w.heap.size + 1, 0, none⟩)]] 80))
  go_wp2_with fail
  refine (HE.out _).mono ?_
  rintro e w1 ⟨gE, cpE, rfl, hgE, hkE, heE, hb1⟩
  have b0 := (hb1.block w.heap.size (by simp; omega)).trans HT.out.1
  have b1 := (hb1.block (w.heap.size + 1) (by simp)).trans HT.out.2.1
  have b2 := (hb1.block (w.heap.size + 2) (by simp)).trans HT.out.2.2
  have HBW : Hid (Below w.heap.size w w1) := Lib.hid (by (repeat' (first | (with_reducible assumption) | (with_reducible exact Below.refl _ _) | (with_reducible refine below_drewN ?_ _) | (with_reducible refine Below.drew ?_) | (with_reducible refine Below.alloc ?_ ?_ _) | (with_reducible refine Below.setCell ?_ ?_ _) | (with_reducible refine Below.trans ?_ (Below.mono (by assumption) ?_)) | (with_reducible exact Nat.le_refl _) | (with_reducible assumption) | omega | (simp; omega) | (simp; done))))
  have hz1 := hb1.size
  simp at hz1
  have HCC : Hid (∀ i : Nat, i < m → ∀ w', Below w1.heap.size w1 w' → Calls Try.prog 111 #[elE (m : Int) ((i : Nat) : Int), .pointer (some ⟨w.heap.size + 1 + 1, 0, none⟩), .pointer (some ⟨w.heap.size, 0, none⟩)] w' fun e w'' => e = .returned (elE (m : Int) (D i)) ∧ Below w'.heap.size w' w'') := Lib.hid fun i hi w' hb =>
    HC.out i hi (w.heap.size + 1 + 1) w.heap.size (w.heap.size + 1) w' (at_box ((hb.block _ (by omega)).trans b2)) (at_box ((hb.block _ (by omega)).trans b1)) ((hb.block _ (by omega)).trans b0) (HBW.out.trans (hb.mono HBW.out.size))
  have HEE := Lib.hid heE
  have hgl := hkE.lt
  clear heE hkE b0 b1 b2 hb1
  go_wp2_with fail
  refine (mapped_dif (m : Int) (w.heap.size + 1 + 1) w.heap.size (.slice (some ⟨gE, 0, none⟩) m cpE) (fun j => (j : Int)) D m w1 ⟨gE, cpE, rfl, hgl, HEE.out⟩ (by omega) HCC.out).mono ?_
  rintro e w2 ⟨g2, rfl, hg2, hk2, he2, hb2⟩
  have HK2 := Lib.hid hk2
  have HE2 := Lib.hid he2
  have HB2 : Hid (Below w.heap.size w w2) := Lib.hid (by have hb1 := HBW.out; (repeat' (first | (with_reducible assumption) | (with_reducible exact Below.refl _ _) | (with_reducible refine below_drewN ?_ _) | (with_reducible refine Below.drew ?_) | (with_reducible refine Below.alloc ?_ ?_ _) | (with_reducible refine Below.setCell ?_ ?_ _) | (with_reducible refine Below.trans ?_ (Below.mono (by assumption) ?_)) | (with_reducible exact Nat.le_refl _) | (with_reducible assumption) | omega | (simp; omega) | (simp; done))))
  have hz := HBW.out.size
  clear hk2 he2 hb2
  go_wp2
  go_ret
  exact ⟨_, rfl, by omega, HK2.out, HE2.out, HB2.out⟩
end Go.Proofs.Ytgndlpdcebmgmaa
