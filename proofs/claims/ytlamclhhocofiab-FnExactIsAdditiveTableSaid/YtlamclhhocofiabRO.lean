/- IsAdditiveTable, of both, by contracts; the walk of its law. -/
import Derived.Test.YtlamclhhocofiabRC
import Derived.Test.YtlamclhhocofiabRI
import Derived.Deep.RegionHeld3
import Derived.Laws.EntriesVeiled
import Derived.WalkMore
namespace Go.Proofs.Ytlamclhhocofiab
open Go.RowKit
/-- '!=' on two elements, at their digits. -/
theorem eq_dgs (q x y : Int) (h : isSz q = true) (hx : El q x) (hy : El q y) (w : World) :
    (Op.equalIn 9999 62 (.agg #[.int .i64 (dg q x 0), .int .i64 (dg q x 1), .int .i64 (dg q x 2), .int .i64 (dg q x 3)]) (.agg #[.int .i64 (dg q y 0), .int .i64 (dg q y 1), .int .i64 (dg q y 2), .int .i64 (dg q y 3)])).run Try.prog w = .ok (decide (x = y)) w := by
  rw [← dg_inj q x y h hx.1 hx.2 hy.1 hy.2]
  exact eq_arr 62 Try.underlying62 _ _ _ _ _ _ _ _ 9997 w
set_option maxRecDepth 100000 in
set_option maxHeartbeats 8000000 in
/-- The closure 'at' of impl.field.brokenSum. -/
theorem bsAt (m g cap V x : Nat) (y : Int) (w : World) (h : isSz (m : Int) = true) (hx : x < m) (hV : w.cell? ⟨V, 0, none⟩ = some (.slice (some ⟨g, 0, none⟩) m cap)) (he : w.cell? ⟨g, x * 7, none⟩ = some (.int .i64 m) ∧ w.cell? ⟨g, x * 7 + 1, none⟩ = some (.int .i64 (pr m)) ∧ w.cell? ⟨g, x * 7 + 2, none⟩ = some (.int .i64 (pl m)) ∧ w.cell? ⟨g, x * 7 + 3, none⟩ = some (.int .i64 (dg m y 0)) ∧ w.cell? ⟨g, x * 7 + 4, none⟩ = some (.int .i64 (dg m y 1)) ∧ w.cell? ⟨g, x * 7 + 5, none⟩ = some (.int .i64 (dg m y 2)) ∧ w.cell? ⟨g, x * 7 + 6, none⟩ = some (.int .i64 (dg m y 3))) :
    Calls Try.prog 83 #[elE (m : Int) (x : Int), .pointer (some ⟨V, 0, none⟩)] w fun e w' => e = .returned (elE (m : Int) y) ∧ Below w.heap.size w w' := by
  have hq := isSz_le (m : Int) h
  have HN := Lib.hid (fun w => numberE (m : Int) (x : Int) w h (by omega) (by omega))
  have lV := World.block_lt_of_cell? w _ hV
  obtain ⟨e0, e1, e2, e3, e4, e5, e6⟩ := he
  have lg := World.block_lt_of_cell? w _ e0
  simp only at lV lg
  have HKEEP : Hid (∀ w', Below (w.heap.size + 1) (w.alloc (eblk (m : Int) (x : Int))) w' → w'.cell? ⟨V, 0, none⟩ = some (.slice (some ⟨g, 0, none⟩) m cap) ∧ w'.cell? ⟨w.heap.size, 0, none⟩ = some (.int .i64 m) ∧ w'.cell? ⟨w.heap.size, 1, none⟩ = some (.int .i64 (pr m)) ∧ w'.cell? ⟨w.heap.size, 2, none⟩ = some (.int .i64 (pl m)) ∧ w'.cell? ⟨w.heap.size, 3, none⟩ = some (.int .i64 (dg m x 0)) ∧ w'.cell? ⟨w.heap.size, 4, none⟩ = some (.int .i64 (dg m x 1)) ∧ w'.cell? ⟨w.heap.size, 5, none⟩ = some (.int .i64 (dg m x 2)) ∧ w'.cell? ⟨w.heap.size, 6, none⟩ = some (.int .i64 (dg m x 3)) ∧ w'.cell? ⟨g, x * 7, none⟩ = some (.int .i64 m) ∧ w'.cell? ⟨g, x * 7 + 1, none⟩ = some (.int .i64 (pr m)) ∧ w'.cell? ⟨g, x * 7 + 2, none⟩ = some (.int .i64 (pl m)) ∧ w'.cell? ⟨g, x * 7 + 3, none⟩ = some (.int .i64 (dg m y 0)) ∧ w'.cell? ⟨g, x * 7 + 4, none⟩ = some (.int .i64 (dg m y 1)) ∧ w'.cell? ⟨g, x * 7 + 5, none⟩ = some (.int .i64 (dg m y 2)) ∧ w'.cell? ⟨g, x * 7 + 6, none⟩ = some (.int .i64 (dg m y 3))) := Lib.hid fun w' hb => by
    have hbw : Below w.heap.size w w' := by (repeat' (first | (with_reducible assumption) | (with_reducible exact Below.refl _ _) | (with_reducible refine below_drewN ?_ _) | (with_reducible refine Below.drew ?_) | (with_reducible refine Below.alloc ?_ ?_ _) | (with_reducible refine Below.setCell ?_ ?_ _) | (with_reducible refine Below.trans ?_ (Below.mono (by assumption) ?_)) | (with_reducible exact Nat.le_refl _) | (with_reducible assumption) | omega | (simp; omega) | (simp; done)))
    obtain ⟨y0, y1, y2, y3, y4, y5, y6, _⟩ := seven ((hb.block _ (by omega)).trans (heap_alloc_new w (eblk (m : Int) (x : Int))))
    have hc : ∀ o v, w.cell? ⟨g, o, none⟩ = some v → w'.cell? ⟨g, o, none⟩ = some v := fun o v hh => (hbw.cell (p := ⟨g, o, none⟩) lg).trans hh
    exact ⟨(hbw.cell (p := ⟨V, 0, none⟩) lV).trans hV, y0, y1, y2, y3, y4, y5, y6, hc _ _ e0, hc _ _ e1, hc _ _ e2, hc _ _ e3, hc _ _ e4, hc _ _ e5, hc _ _ e6⟩
  clear h hV e0 e1 e2 e3 e4 e5 e6
  go_enter Try.func83, Try.ntmps83
  go_wp2_with fail
  have HT := Lib.hid (two w (eblk (m : Int) (x : Int)) zeroblk)
  go_region_held3 (fun w' => w'.cell? ⟨V, 0, none⟩ = some (.slice (some ⟨g, 0, none⟩) m cap) ∧ w'.cell? ⟨w.heap.size, 0, none⟩ = some (.int .i64 m) ∧ w'.cell? ⟨w.heap.size, 1, none⟩ = some (.int .i64 (pr m)) ∧ w'.cell? ⟨w.heap.size, 2, none⟩ = some (.int .i64 (pl m)) ∧ w'.cell? ⟨w.heap.size, 3, none⟩ = some (.int .i64 (dg m x 0)) ∧ w'.cell? ⟨w.heap.size, 4, none⟩ = some (.int .i64 (dg m x 1)) ∧ w'.cell? ⟨w.heap.size, 5, none⟩ = some (.int .i64 (dg m x 2)) ∧ w'.cell? ⟨w.heap.size, 6, none⟩ = some (.int .i64 (dg m x 3)) ∧ w'.cell? ⟨g, x * 7, none⟩ = some (.int .i64 m) ∧ w'.cell? ⟨g, x * 7 + 1, none⟩ = some (.int .i64 (pr m)) ∧ w'.cell? ⟨g, x * 7 + 2, none⟩ = some (.int .i64 (pl m)) ∧ w'.cell? ⟨g, x * 7 + 3, none⟩ = some (.int .i64 (dg m y 0)) ∧ w'.cell? ⟨g, x * 7 + 4, none⟩ = some (.int .i64 (dg m y 1)) ∧ w'.cell? ⟨g, x * 7 + 5, none⟩ = some (.int .i64 (dg m y 2)) ∧ w'.cell? ⟨g, x * 7 + 6, none⟩ = some (.int .i64 (dg m y 3)))
    (exact HKEEP.out _ (by (try have hb3 := HB3.out); (repeat' (first | (with_reducible assumption) | (with_reducible exact Below.refl _ _) | (with_reducible refine below_drewN ?_ _) | (with_reducible refine Below.drew ?_) | (with_reducible refine Below.alloc ?_ ?_ _) | (with_reducible refine Below.setCell ?_ ?_ _) | (with_reducible refine Below.trans ?_ (Below.mono (by assumption) ?_)) | (with_reducible exact Nat.le_refl _) | (with_reducible assumption) | omega | (simp; omega) | (simp; done)))))
    (first
    | (go_at_call 57; refine (HN.out _).mono ?_; rintro e w3 ⟨rfl, hb3⟩; obtain ⟨hc3, hf3⟩ := bcell hb3; (try simp only [World.size_drew] at hc3 hf3); have hz3 := hb3.size; (try simp at hz3); have HB3 := Lib.hid hb3; clear hb3; have l3 : w.heap.size + 1 < w3.heap.size := (by omega); have hr4 : w3.heap[w.heap.size + 1]? = some zeroblk := (Below.block (B := w.heap.size + 2) (w := (w.alloc (eblk (m : Int) (x : Int))).alloc zeroblk) (by have hb3 := HB3.out; (repeat' (first | (with_reducible assumption) | (with_reducible exact Below.refl _ _) | (with_reducible refine below_drewN ?_ _) | (with_reducible refine Below.drew ?_) | (with_reducible refine Below.alloc ?_ ?_ _) | (with_reducible refine Below.setCell ?_ ?_ _) | (with_reducible refine Below.trans ?_ (Below.mono (by assumption) ?_)) | (with_reducible exact Nat.le_refl _) | (with_reducible assumption) | omega | (simp; omega) | (simp; done)))) _ (by omega)).trans HT.out.2; obtain ⟨q0, q1, q2, q3, q4, q5, q6, qf, ql⟩ := seven hr4))
  all_goals
    go_wp2_with fail
    have hb3 := HB3.out
    have hbr : Below (w.heap.size + 2) ((w.alloc (eblk (m : Int) (x : Int))).alloc zeroblk) w3 := by (repeat' (first | (with_reducible assumption) | (with_reducible exact Below.refl _ _) | (with_reducible refine below_drewN ?_ _) | (with_reducible refine Below.drew ?_) | (with_reducible refine Below.alloc ?_ ?_ _) | (with_reducible refine Below.setCell ?_ ?_ _) | (with_reducible refine Below.trans ?_ (Below.mono (by assumption) ?_)) | (with_reducible exact Nat.le_refl _) | (with_reducible assumption) | omega | (simp; omega) | (simp; done)))
    have hr : w3.heap[w.heap.size + 1]? = some zeroblk := (hbr.block _ (by omega)).trans HT.out.2
    obtain ⟨r0, r1, r2, r3, r4, r5, r6, rf, rl⟩ := seven hr
    refine bodyPost_ret (v := elE (m : Int) y) (by simp [results, Try.results83, go_sem, r0, r1, r2, r3, r4, r5, r6]) rfl ⟨rfl, ?_⟩
    (repeat' (first | (with_reducible assumption) | (with_reducible exact Below.refl _ _) | (with_reducible refine below_drewN ?_ _) | (with_reducible refine Below.drew ?_) | (with_reducible refine Below.alloc ?_ ?_ _) | (with_reducible refine Below.setCell ?_ ?_ _) | (with_reducible refine Below.trans ?_ (Below.mono (by assumption) ?_)) | (with_reducible exact Nat.le_refl _) | (with_reducible assumption) | omega | (simp; omega) | (simp; done)))
set_option maxRecDepth 100000 in
set_option maxHeartbeats 8000000 in
/-- The closure 'finds' of impl.field.brokenSum. -/
theorem bsFinds (m g cap A V a b s : Nat) (t : Nat → Int) (w : World) (h : isSz (m : Int) = true) (hx : a < m) (hy : b < m) (hs : s < m) (hab : addF m (a : Int) (b : Int) = (s : Int)) (ht : ∀ i, i < m → El (m : Int) (t i)) (hA : w.cell? ⟨A, 0, none⟩ = some (.func (.func 83) #[] #[.pointer (some ⟨V, 0, none⟩)])) (hV : w.cell? ⟨V, 0, none⟩ = some (.slice (some ⟨g, 0, none⟩) m cap)) (hg : g < w.heap.size) (he : Els w g (m : Int) t m) :
    Calls Try.prog 85 #[elE (m : Int) (a : Int), elE (m : Int) (b : Int), .pointer (some ⟨A, 0, none⟩)] w fun e w' => e = .returned (.bool (!decide (t s = addF m (t a) (t b)))) ∧ Below w.heap.size w w' := by
  have hq := isSz_le (m : Int) h
  have lA := World.block_lt_of_cell? w _ hA
  have lV := World.block_lt_of_cell? w _ hV
  simp only at lV lA
  have hz := (ht a hx).add h (ht b hy)
  have HP1 := Lib.hid (fun w => by
    have := plusE (m : Int) (a : Int) (b : Int) w h (by omega) (by omega) (by omega) (by omega)
    rw [hab] at this
    exact this)
  have HP2 := Lib.hid (fun w => plusE (m : Int) (t a) (t b) w h (ht a hx).1 (ht a hx).2 (ht b hy).1 (ht b hy).2)
  have HAT := Lib.hid (fun (x : Nat) (hx : x < m) w' (hb : Below w.heap.size w w') => bsAt m g cap V x (t x) w' h hx ((hb.cell (p := ⟨V, 0, none⟩) lV).trans hV) ((he.below hb hg) x hx))
  have HEQ := Lib.hid (fun w => eq_dgs (m : Int) (t s) (addF m (t a) (t b)) h (ht s hs) hz w)
  have HKEEP : Hid (∀ w', Below (w.heap.size + 2) ((w.alloc (eblk (m : Int) (a : Int))).alloc (eblk (m : Int) (b : Int))) w' → w'.cell? ⟨A, 0, none⟩ = some (.func (.func 83) #[] #[.pointer (some ⟨V, 0, none⟩)]) ∧ w'.cell? ⟨w.heap.size, 0, none⟩ = some (.int .i64 m) ∧ w'.cell? ⟨w.heap.size, 1, none⟩ = some (.int .i64 (pr m)) ∧ w'.cell? ⟨w.heap.size, 2, none⟩ = some (.int .i64 (pl m)) ∧ w'.cell? ⟨w.heap.size, 3, none⟩ = some (.int .i64 (dg m a 0)) ∧ w'.cell? ⟨w.heap.size, 4, none⟩ = some (.int .i64 (dg m a 1)) ∧ w'.cell? ⟨w.heap.size, 5, none⟩ = some (.int .i64 (dg m a 2)) ∧ w'.cell? ⟨w.heap.size, 6, none⟩ = some (.int .i64 (dg m a 3)) ∧ w'.cell? ⟨w.heap.size + 1, 0, none⟩ = some (.int .i64 m) ∧ w'.cell? ⟨w.heap.size + 1, 1, none⟩ = some (.int .i64 (pr m)) ∧ w'.cell? ⟨w.heap.size + 1, 2, none⟩ = some (.int .i64 (pl m)) ∧ w'.cell? ⟨w.heap.size + 1, 3, none⟩ = some (.int .i64 (dg m b 0)) ∧ w'.cell? ⟨w.heap.size + 1, 4, none⟩ = some (.int .i64 (dg m b 1)) ∧ w'.cell? ⟨w.heap.size + 1, 5, none⟩ = some (.int .i64 (dg m b 2)) ∧ w'.cell? ⟨w.heap.size + 1, 6, none⟩ = some (.int .i64 (dg m b 3))) := Lib.hid fun w' hb => by
    have hbw : Below w.heap.size w w' := by (repeat' (first | (with_reducible assumption) | (with_reducible exact Below.refl _ _) | (with_reducible refine below_drewN ?_ _) | (with_reducible refine Below.drew ?_) | (with_reducible refine Below.alloc ?_ ?_ _) | (with_reducible refine Below.setCell ?_ ?_ _) | (with_reducible refine Below.trans ?_ (Below.mono (by assumption) ?_)) | (with_reducible exact Nat.le_refl _) | (with_reducible assumption) | omega | (simp; omega) | (simp; done)))
    obtain ⟨t0, t1⟩ := two w (eblk (m : Int) (a : Int)) (eblk (m : Int) (b : Int))
    obtain ⟨x0, x1, x2, x3, x4, x5, x6, _⟩ := seven ((hb.block _ (by omega)).trans t0)
    obtain ⟨y0, y1, y2, y3, y4, y5, y6, _⟩ := seven ((hb.block _ (by omega)).trans t1)
    exact ⟨(hbw.cell (p := ⟨A, 0, none⟩) lA).trans hA, x0, x1, x2, x3, x4, x5, x6, y0, y1, y2, y3, y4, y5, y6⟩
  have HATa := Lib.hid (HAT.out a hx)
  have HATb := Lib.hid (HAT.out b hy)
  have HATs := Lib.hid (HAT.out s hs)
  clear h ht hV hA he hz HAT hab
  generalize t a = X at *
  generalize t b = Y at *
  generalize t s = Z at *
  generalize addF m X Y = U at *
  generalize hdd : decide (Z = U) = d at *
  clear hdd
  cases d
  all_goals
    go_enter Try.func85, Try.ntmps85
    go_wp2_with fail
    have heq0 := HEQ.out
    go_region_held3 (fun w' => w'.cell? ⟨A, 0, none⟩ = some (.func (.func 83) #[] #[.pointer (some ⟨V, 0, none⟩)]) ∧ w'.cell? ⟨w.heap.size, 0, none⟩ = some (.int .i64 m) ∧ w'.cell? ⟨w.heap.size, 1, none⟩ = some (.int .i64 (pr m)) ∧ w'.cell? ⟨w.heap.size, 2, none⟩ = some (.int .i64 (pl m)) ∧ w'.cell? ⟨w.heap.size, 3, none⟩ = some (.int .i64 (dg m a 0)) ∧ w'.cell? ⟨w.heap.size, 4, none⟩ = some (.int .i64 (dg m a 1)) ∧ w'.cell? ⟨w.heap.size, 5, none⟩ = some (.int .i64 (dg m a 2)) ∧ w'.cell? ⟨w.heap.size, 6, none⟩ = some (.int .i64 (dg m a 3)) ∧ w'.cell? ⟨w.heap.size + 1, 0, none⟩ = some (.int .i64 m) ∧ w'.cell? ⟨w.heap.size + 1, 1, none⟩ = some (.int .i64 (pr m)) ∧ w'.cell? ⟨w.heap.size + 1, 2, none⟩ = some (.int .i64 (pl m)) ∧ w'.cell? ⟨w.heap.size + 1, 3, none⟩ = some (.int .i64 (dg m b 0)) ∧ w'.cell? ⟨w.heap.size + 1, 4, none⟩ = some (.int .i64 (dg m b 1)) ∧ w'.cell? ⟨w.heap.size + 1, 5, none⟩ = some (.int .i64 (dg m b 2)) ∧ w'.cell? ⟨w.heap.size + 1, 6, none⟩ = some (.int .i64 (dg m b 3)))
      (exact HKEEP.out _ (by (try have hb3 := HB3.out); (try have hb4 := HB4.out); (try have hb5 := HB5.out); (try have hb6 := HB6.out); (try have hb7 := HB7.out); (repeat' (first | (with_reducible assumption) | (with_reducible exact Below.refl _ _) | (with_reducible refine below_drewN ?_ _) | (with_reducible refine Below.drew ?_) | (with_reducible refine Below.alloc ?_ ?_ _) | (with_reducible refine Below.setCell ?_ ?_ _) | (with_reducible refine Below.trans ?_ (Below.mono (by assumption) ?_)) | (with_reducible exact Nat.le_refl _) | (with_reducible assumption) | omega | (simp; omega) | (simp; done)))))
      (first
      | (go_at_call_of 86 (dg (m : Int) (a : Int) 0); refine (HP1.out _).mono ?_; rintro e w3 ⟨rfl, hb3⟩; obtain ⟨hc3, hf3⟩ := bcell hb3; (try simp only [World.size_drew] at hc3 hf3); have hz3 := hb3.size; (try simp at hz3); have HB3 := Lib.hid hb3; clear hb3)
      | (go_at_call_of 86 (elE (m : Int) X); refine (HP2.out _).mono ?_; rintro e w7 ⟨rfl, hb7⟩; obtain ⟨hc7, hf7⟩ := bcell hb7; (try simp only [World.size_drew] at hc7 hf7); have hz7 := hb7.size; (try simp at hz7); have HB7 := Lib.hid hb7; clear hb7)
      | (go_at_call_of 83 (elE (m : Int) (s : Int)); refine (HATs.out _ (by (try have hb3 := HB3.out); (try have hb5 := HB5.out); (try have hb6 := HB6.out); (repeat' (first | (with_reducible assumption) | (with_reducible exact Below.refl _ _) | (with_reducible refine below_drewN ?_ _) | (with_reducible refine Below.drew ?_) | (with_reducible refine Below.alloc ?_ ?_ _) | (with_reducible refine Below.setCell ?_ ?_ _) | (with_reducible refine Below.trans ?_ (Below.mono (by assumption) ?_)) | (with_reducible exact Nat.le_refl _) | (with_reducible assumption) | omega | (simp; omega) | (simp; done))))).mono ?_; rintro e w4 ⟨rfl, hb4⟩; obtain ⟨hc4, hf4⟩ := bcell hb4; (try simp only [World.size_drew] at hc4 hf4); have hz4 := hb4.size; (try simp at hz4); have HB4 := Lib.hid hb4; clear hb4)
      | (go_at_call_of 83 (dg (m : Int) (a : Int) 0); refine (HATa.out _ (by (try have hb3 := HB3.out); (try have hb4 := HB4.out); (try have hb6 := HB6.out); (repeat' (first | (with_reducible assumption) | (with_reducible exact Below.refl _ _) | (with_reducible refine below_drewN ?_ _) | (with_reducible refine Below.drew ?_) | (with_reducible refine Below.alloc ?_ ?_ _) | (with_reducible refine Below.setCell ?_ ?_ _) | (with_reducible refine Below.trans ?_ (Below.mono (by assumption) ?_)) | (with_reducible exact Nat.le_refl _) | (with_reducible assumption) | omega | (simp; omega) | (simp; done))))).mono ?_; rintro e w5 ⟨rfl, hb5⟩; obtain ⟨hc5, hf5⟩ := bcell hb5; (try simp only [World.size_drew] at hc5 hf5); have hz5 := hb5.size; (try simp at hz5); have HB5 := Lib.hid hb5; clear hb5)
      | (go_at_call_of 83 (dg (m : Int) (b : Int) 0); refine (HATb.out _ (by (try have hb3 := HB3.out); (try have hb4 := HB4.out); (try have hb5 := HB5.out); (repeat' (first | (with_reducible assumption) | (with_reducible exact Below.refl _ _) | (with_reducible refine below_drewN ?_ _) | (with_reducible refine Below.drew ?_) | (with_reducible refine Below.alloc ?_ ?_ _) | (with_reducible refine Below.setCell ?_ ?_ _) | (with_reducible refine Below.trans ?_ (Below.mono (by assumption) ?_)) | (with_reducible exact Nat.le_refl _) | (with_reducible assumption) | omega | (simp; omega) | (simp; done))))).mono ?_; rintro e w6 ⟨rfl, hb6⟩; obtain ⟨hc6, hf6⟩ := bcell hb6; (try simp only [World.size_drew] at hc6 hf6); have hz6 := hb6.size; (try simp at hz6); have HB6 := Lib.hid hb6; clear hb6))
    all_goals
      go_wp2
      go_ret
      have hb3 := HB3.out
      have hb4 := HB4.out
      have hb5 := HB5.out
      have hb6 := HB6.out
      have hb7 := HB7.out
      exact ⟨by first | rfl | simp, by (repeat' (first | (with_reducible assumption) | (with_reducible exact Below.refl _ _) | (with_reducible refine below_drewN ?_ _) | (with_reducible refine Below.drew ?_) | (with_reducible refine Below.alloc ?_ ?_ _) | (with_reducible refine Below.setCell ?_ ?_ _) | (with_reducible refine Below.trans ?_ (Below.mono (by assumption) ?_)) | (with_reducible exact Nat.le_refl _) | (with_reducible assumption) | omega | (simp; omega) | (simp; done)))⟩
theorem cells2 {w : World} {b : Nat} {x0 x1 : Value} {T : TypeId} (h : w.heap[b]? = some (.cells #[x0, x1] T (0, 0))) : w.cell? ⟨b, 0, none⟩ = some x0 ∧ w.cell? ⟨b, 1, none⟩ = some x1 ∧ (∀ o, w.frozen? ⟨b, o, none⟩ = false) ∧ b < w.heap.size := by
  refine ⟨?_, ?_, fun o => frozen_of_row w b o _ _ h, (Array.getElem?_eq_some_iff.1 h).1⟩ <;> rw [cell_of_row w b _ _ _ (0, 0) h] <;> rfl
theorem fourB (w : World) (o0 : Obj) (x : Value) (T1 T2 T3 : TypeId) (u : Value) :
    ((((w.alloc o0).alloc (.cells #[x] T1)).alloc (.cells #[.slice none 0 0, .nilFunc] T2)).alloc (.cells #[u] T3)).heap[w.heap.size + 1]? = some (.cells #[x] T1) ∧
    ((((w.alloc o0).alloc (.cells #[x] T1)).alloc (.cells #[.slice none 0 0, .nilFunc] T2)).alloc (.cells #[u] T3)).heap[w.heap.size + 1 + 1]? = some (.cells #[.slice none 0 0, .nilFunc] T2) ∧
    ((((w.alloc o0).alloc (.cells #[x] T1)).alloc (.cells #[.slice none 0 0, .nilFunc] T2)).alloc (.cells #[u] T3)).heap[w.heap.size + 1 + 1 + 1]? = some (.cells #[u] T3) := by
  refine ⟨?_, ?_, ?_⟩
  · rw [Below.heap_alloc _ _ _ (by simp), Below.heap_alloc _ _ _ (by simp)]
    have := heap_alloc_new (w.alloc o0) (.cells #[x] T1)
    simpa using this
  · rw [Below.heap_alloc _ _ _ (by simp)]
    have := heap_alloc_new ((w.alloc o0).alloc (.cells #[x] T1)) (.cells #[.slice none 0 0, .nilFunc] T2)
    simpa using this
  · have := heap_alloc_new (((w.alloc o0).alloc (.cells #[x] T1)).alloc (.cells #[.slice none 0 0, .nilFunc] T2)) (.cells #[u] T3)
    simpa using this
set_option maxRecDepth 100000 in
set_option maxHeartbeats 8000000 in
/-- impl.field.brokenSum. -/
theorem brokenSumE (m : Nat) (v : Value) (t : Nat → Int) (w : World) (h : isSz (m : Int) = true) (hv : Se w v (m : Int) t m) :
    Calls Try.prog 47 #[fdE (m : Int), v] w fun e w' => ∃ gE capE A V gV capV, e = .returned (.agg #[.slice (some ⟨gE, 0, none⟩) m capE, .func (.func 85) #[] #[.pointer (some ⟨A, 0, none⟩)]]) ∧ Blk w' gE m ∧ Els w' gE (m : Int) (fun j => (j : Int)) m ∧
      w'.cell? ⟨A, 0, none⟩ = some (.func (.func 83) #[] #[.pointer (some ⟨V, 0, none⟩)]) ∧ w'.cell? ⟨V, 0, none⟩ = some (.slice (some ⟨gV, 0, none⟩) m capV) ∧ gV < w'.heap.size ∧ Els w' gV (m : Int) t m ∧ Below w.heap.size w w' := by
  have HE := Lib.hid (fun w => elements_any (m : Int) w h)
  rw [Int.toNat_natCast] at HE
  obtain ⟨g, cap, rfl, hg, he⟩ := hv
  have HE0 := Lib.hid he
  clear h he
  go_enter Try.func47, Try.ntmps47
  go_wp2_with fail
  refine (HE.out _).mono ?_
  rintro e w3 ⟨gE, capE, rfl, hgE, hkb, hel, hb3⟩
  have hbx : Below (w.heap.size + 4) ((((w.alloc (ffblk (m : Int))).alloc (.cells #[.slice (some ⟨g, 0, none⟩) m cap] 42)).alloc (.cells #[.slice none 0 0, .nilFunc] 58)).alloc (.cells #[.func (.func 83) #[] #[.pointer (some ⟨w.heap.size + 1, 0, none⟩)]] 69)) w3 := Below.mono hb3 (show w.heap.size + 4 ≤ _ from by simp)
  obtain ⟨b1, b2, b3⟩ := fourB w (ffblk (m : Int)) (.slice (some ⟨g, 0, none⟩) m cap) 42 58 69 (.func (.func 83) #[] #[.pointer (some ⟨w.heap.size + 1, 0, none⟩)])
  have hV := at_box ((hbx.block _ (by omega)).trans b1)
  have hR := (hbx.block (w.heap.size + 1 + 1) (by omega)).trans b2
  have hA := at_box ((hbx.block (w.heap.size + 1 + 1 + 1) (by omega)).trans b3)
  obtain ⟨r0, r1, rf, rl⟩ := cells2 hR
  have lE := hkb.lt
  have HK3 := Lib.hid hkb
  have HL3 := Lib.hid hel
  have HB3 : Hid (Below w.heap.size w w3) := Lib.hid (by (repeat' (first | (with_reducible assumption) | (with_reducible exact Below.refl _ _) | (with_reducible refine below_drewN ?_ _) | (with_reducible refine Below.drew ?_) | (with_reducible refine Below.alloc ?_ ?_ _) | (with_reducible refine Below.setCell ?_ ?_ _) | (with_reducible refine Below.trans ?_ (Below.mono (by assumption) ?_)) | (with_reducible exact Nat.le_refl _) | (with_reducible assumption) | omega | (simp; omega) | (simp; done))))
  have HE3 := Lib.hid (HE0.out.below HB3.out hg)
  have hz3 := hbx.size
  simp at hz3 hgE
  clear hkb hel hb3 hbx b1 b2 b3
  go_wp2_with fail
  have hw : ∀ k, k ≠ w.heap.size + 1 + 1 → ∀ u1 u2, ((w3.setCell ⟨w.heap.size + 1 + 1, 0, none⟩ u1).setCell ⟨w.heap.size + 1 + 1, 1, none⟩ u2).heap[k]? = w3.heap[k]? := fun k hk u1 u2 => by
    rw [heap_setCell_other _ _ _ _ hk, heap_setCell_other _ _ _ _ hk]
  refine bodyPost_ret (v := .agg #[.slice (some ⟨gE, 0, none⟩) m capE, .func (.func 85) #[] #[.pointer (some ⟨w.heap.size + 1 + 1 + 1, 0, none⟩)]]) (by simp [results, Try.results47, go_sem, r0, r1]) rfl
    ⟨gE, capE, w.heap.size + 1 + 1 + 1, w.heap.size + 1, g, cap, rfl, HK3.out.same (hw _ (by omega) _ _), HL3.out.same (hw _ (by omega) _ _), (World.cell?_of_block (a := ⟨w.heap.size + 1 + 1 + 1, 0, none⟩) (hw _ (by show w.heap.size + 1 + 1 + 1 ≠ _; omega) _ _)).trans hA, (World.cell?_of_block (a := ⟨w.heap.size + 1, 0, none⟩) (hw _ (by show w.heap.size + 1 ≠ _; omega) _ _)).trans hV, by simp; omega, HE3.out.same (hw _ (by omega) _ _), ?_⟩
  have hb3 := HB3.out
  (repeat' (first | (with_reducible assumption) | (with_reducible exact Below.refl _ _) | (with_reducible refine below_drewN ?_ _) | (with_reducible refine Below.drew ?_) | (with_reducible refine Below.alloc ?_ ?_ _) | (with_reducible refine Below.setCell ?_ ?_ _) | (with_reducible refine Below.trans ?_ (Below.mono (by assumption) ?_)) | (with_reducible exact Nat.le_refl _) | (with_reducible assumption) | omega | (simp; omega) | (simp; done)))
set_option maxRecDepth 100000 in
set_option maxHeartbeats 8000000 in
/-- impl.pairSearch.succeeds. -/
theorem succeedsE (m gE capE A : Nat) (ok : Nat → Nat → Bool) (ans : Bool) (w : World) (hm : 2 ≤ m ∧ m ≤ 16) (hkE : gE < w.heap.size) (hE : Els w gE (m : Int) (fun j => (j : Int)) m)
    (HX : ∀ a b, a < m → b < m → ∀ w', Below w.heap.size w w' → Calls Try.prog 85 #[elE (m : Int) (a : Int), elE (m : Int) (b : Int), .pointer (some ⟨A, 0, none⟩)] w' fun e w'' => e = .returned (.bool (!ok a b)) ∧ Below w'.heap.size w' w'')
    (HY : (∀ a, a < m → ∀ b, b < m → ok a b = true) → ans = true) (HN : ∀ a b, a < m → b < m → ok a b = false → ans = false) :
    Calls Try.prog 50 #[.agg #[.slice (some ⟨gE, 0, none⟩) m capE, .func (.func 85) #[] #[.pointer (some ⟨A, 0, none⟩)]]] w fun e w' => e = .returned (.bool (!ans)) ∧ Below w.heap.size w w' := by
  have HXX := Lib.hid HX; clear HX
  have HYY := Lib.hid HY; clear HY
  have HNN := Lib.hid HN; clear HN
  have HEE := Lib.hid (fun w' (hb : Below w.heap.size w w') => hE.below hb hkE)
  have HPB : Hid (∀ w', Below (w.heap.size + 1) (w.alloc (.cells #[.slice (some ⟨gE, 0, none⟩) m capE, .func (.func 85) #[] #[.pointer (some ⟨A, 0, none⟩)]] 58)) w' → w'.cell? ⟨w.heap.size, 0, none⟩ = some (.slice (some ⟨gE, 0, none⟩) m capE) ∧ w'.cell? ⟨w.heap.size, 1, none⟩ = some (.func (.func 85) #[] #[.pointer (some ⟨A, 0, none⟩)]) ∧ w.heap.size < w'.heap.size) := Lib.hid fun w' hb => by
    obtain ⟨x0, x1, _, xl⟩ := cells2 ((hb.block _ (by omega)).trans (heap_alloc_new w _))
    exact ⟨x0, x1, xl⟩
  clear hE
  go_enter Try.func50, Try.ntmps50
  go_wp2_with fail
  go_step3
  go_wp2_with fail
  go_step3
  go_wp2_with fail
  go_loopw [3, 11] (fun vf vi wr => ∃ i : Nat, i ≤ m ∧ vi = .int .i64 i ∧ vf = .bool false ∧ (∀ a, a < i → ∀ b, b < m → ok a b = true) ∧ Below (w.heap.size + 1) (w.alloc (.cells #[.slice (some ⟨gE, 0, none⟩) m capE, .func (.func 85) #[] #[.pointer (some ⟨A, 0, none⟩)]] 58)) wr) (fun _ vi _ => m - (intOf vi).toNat)
  case atStart => exact ⟨0, Nat.zero_le _, rfl, rfl, fun a ha => absurd ha (Nat.not_lt_zero _), Below.refl _ _⟩
  case round =>
    obtain ⟨i, hi, rfl, rfl, hok, hbw⟩ := hrel
    have HOK := Lib.hid hok; clear hok
    obtain ⟨p0, p1, pz⟩ := HPB.out _ hbw
    have HBW : Hid (Below w.heap.size w wr) := Lib.hid (by (repeat' (first | (with_reducible assumption) | (with_reducible exact Below.refl _ _) | (with_reducible refine below_drewN ?_ _) | (with_reducible refine Below.drew ?_) | (with_reducible refine Below.alloc ?_ ?_ _) | (with_reducible refine Below.setCell ?_ ?_ _) | (with_reducible refine Below.trans ?_ (Below.mono (by assumption) ?_)) | (with_reducible exact Nat.le_refl _) | (with_reducible assumption) | omega | (simp; omega) | (simp; done))))
    have hsz := hbw.size
    simp at hsz
    by_cases hlt : i < m
    · obtain ⟨c0, c1, c2, c3, c4, c5, c6⟩ := (HEE.out _ HBW.out) i hlt
      have hgl : gE < wr.heap.size := by have := HBW.out.size; omega
      have HBI : Hid (∀ ws, Below (wr.heap.size + 1) (wr.alloc (eblk (m : Int) (i : Int))) ws → Below (w.heap.size + 1) (w.alloc (.cells #[.slice (some ⟨gE, 0, none⟩) m capE, .func (.func 85) #[] #[.pointer (some ⟨A, 0, none⟩)]] 58)) ws) := Lib.hid fun ws hb => (hbw.alloc (by omega) _).trans (hb.mono (by simp; omega))
      have HAB : Hid (∀ ws, Below (wr.heap.size + 1) (wr.alloc (eblk (m : Int) (i : Int))) ws → ws.cell? ⟨wr.heap.size, 0, none⟩ = some (.int .i64 m) ∧ ws.cell? ⟨wr.heap.size, 1, none⟩ = some (.int .i64 (pr m)) ∧ ws.cell? ⟨wr.heap.size, 2, none⟩ = some (.int .i64 (pl m)) ∧ ws.cell? ⟨wr.heap.size, 3, none⟩ = some (.int .i64 (dg m (i : Int) 0)) ∧ ws.cell? ⟨wr.heap.size, 4, none⟩ = some (.int .i64 (dg m (i : Int) 1)) ∧ ws.cell? ⟨wr.heap.size, 5, none⟩ = some (.int .i64 (dg m (i : Int) 2)) ∧ ws.cell? ⟨wr.heap.size, 6, none⟩ = some (.int .i64 (dg m (i : Int) 3)) ∧ wr.heap.size < ws.heap.size) := Lib.hid fun ws hb => by
        obtain ⟨y0, y1, y2, y3, y4, y5, y6, _, yl⟩ := seven ((hb.block _ (by omega)).trans (heap_alloc_new wr (eblk (m : Int) (i : Int))))
        exact ⟨y0, y1, y2, y3, y4, y5, y6, yl⟩
      have HXi := Lib.hid (fun b (hb : b < m) => HXX.out i b hlt hb)
      clear hbw
      go_wp2_with fail
      clear c0 c1 c2 c3 c4 c5 c6 p0 p1 pz
      go_loopw [3, 18] (fun vf vj ws => ∃ j : Nat, j ≤ m ∧ vj = .int .i64 j ∧ vf = .bool false ∧ (∀ b, b < j → ok i b = true) ∧ Below (wr.heap.size + 1) (wr.alloc (eblk (m : Int) (i : Int))) ws) (fun _ vj _ => m - (intOf vj).toNat)
      case atStart => exact ⟨0, Nat.zero_le _, rfl, rfl, fun b hb => absurd hb (Nat.not_lt_zero _), by (repeat' (first | (with_reducible assumption) | (with_reducible exact Below.refl _ _) | (with_reducible refine below_drewN ?_ _) | (with_reducible refine Below.drew ?_) | (with_reducible refine Below.alloc ?_ ?_ _) | (with_reducible refine Below.setCell ?_ ?_ _) | (with_reducible refine Below.trans ?_ (Below.mono (by assumption) ?_)) | (with_reducible exact Nat.le_refl _) | (with_reducible assumption) | omega | (simp; omega) | (simp; done)))⟩
      case round =>
        obtain ⟨j, hj, rfl, rfl, hoj, hbs⟩ := hrel
        have HOJ := Lib.hid hoj; clear hoj
        have hbs1 := HBI.out _ hbs
        obtain ⟨p0, p1, pz⟩ := HPB.out _ hbs1
        have HBS : Hid (Below w.heap.size w wr) := Lib.hid (by (repeat' (first | (with_reducible assumption) | (with_reducible exact Below.refl _ _) | (with_reducible refine below_drewN ?_ _) | (with_reducible refine Below.drew ?_) | (with_reducible refine Below.alloc ?_ ?_ _) | (with_reducible refine Below.setCell ?_ ?_ _) | (with_reducible refine Below.trans ?_ (Below.mono (by assumption) ?_)) | (with_reducible exact Nat.le_refl _) | (with_reducible assumption) | omega | (simp; omega) | (simp; done))))
        have HBSS := Lib.hid hbs1
        by_cases hlj : j < m
        · obtain ⟨c0, c1, c2, c3, c4, c5, c6⟩ := (HEE.out _ HBS.out) j hlj
          obtain ⟨a0, a1, a2, a3, a4, a5, a6, al⟩ := HAB.out _ hbs
          have hgl2 : gE < wr.heap.size := by have := HBS.out.size; omega
          have HXj := Lib.hid (HXi.out j hlj)
          have HBSI := Lib.hid hbs
          clear hbs hbs1
          cases hokk : ok i j with
          | true =>
            rw [hokk] at HXj
            have HG := Lib.hid hokk
            clear hokk
            go_wp2_with fail
            refine (HXj.out _ (by have h1 := HBS.out; (repeat' (first | (with_reducible assumption) | (with_reducible exact Below.refl _ _) | (with_reducible refine below_drewN ?_ _) | (with_reducible refine Below.drew ?_) | (with_reducible refine Below.alloc ?_ ?_ _) | (with_reducible refine Below.setCell ?_ ?_ _) | (with_reducible refine Below.trans ?_ (Below.mono (by assumption) ?_)) | (with_reducible exact Nat.le_refl _) | (with_reducible assumption) | omega | (simp; omega) | (simp; done))))).mono ?_
            rintro e w5 ⟨rfl, hb5⟩
            have HB5 := Lib.hid hb5
            clear hb5
            go_wp2
            go_roundw
            case rel =>
              refine ⟨j + 1, by omega, by go_num, rfl, ?_, by have h1 := HBSI.out; have h2 := HB5.out; (repeat' (first | (with_reducible assumption) | (with_reducible exact Below.refl _ _) | (with_reducible refine below_drewN ?_ _) | (with_reducible refine Below.drew ?_) | (with_reducible refine Below.alloc ?_ ?_ _) | (with_reducible refine Below.setCell ?_ ?_ _) | (with_reducible refine Below.trans ?_ (Below.mono (by assumption) ?_)) | (with_reducible exact Nat.le_refl _) | (with_reducible assumption) | omega | (simp; omega) | (simp; done)))⟩
              intro b hb
              by_cases e : b = j
              · subst e
                exact HG.out
              · exact HOJ.out b (by omega)
            case measure => simp [intOf]; omega
          | false =>
            rw [hokk] at HXj
            have HG : Hid (ans = false) := Lib.hid (HNN.out i j hlt hlj hokk)
            clear hokk
            go_wp2_with fail
            refine (HXj.out _ (by have h1 := HBS.out; (repeat' (first | (with_reducible assumption) | (with_reducible exact Below.refl _ _) | (with_reducible refine below_drewN ?_ _) | (with_reducible refine Below.drew ?_) | (with_reducible refine Below.alloc ?_ ?_ _) | (with_reducible refine Below.setCell ?_ ?_ _) | (with_reducible refine Below.trans ?_ (Below.mono (by assumption) ?_)) | (with_reducible exact Nat.le_refl _) | (with_reducible assumption) | omega | (simp; omega) | (simp; done))))).mono ?_
            rintro e w5 ⟨rfl, hb5⟩
            have HB5 := Lib.hid hb5
            clear hb5
            go_wp2
            try rw [Exit.noGoto_ret]
            go_ret
            exact ⟨by (rw [HG.out]; try rfl), by have h1 := HBS.out; have h2 := HB5.out; (repeat' (first | (with_reducible assumption) | (with_reducible exact Below.refl _ _) | (with_reducible refine below_drewN ?_ _) | (with_reducible refine Below.drew ?_) | (with_reducible refine Below.alloc ?_ ?_ _) | (with_reducible refine Below.setCell ?_ ?_ _) | (with_reducible refine Below.trans ?_ (Below.mono (by assumption) ?_)) | (with_reducible exact Nat.le_refl _) | (with_reducible assumption) | omega | (simp; omega) | (simp; done)))⟩
        · obtain rfl : m = j := by omega
          clear hbs
          go_wp2
          go_roundw
          case rel =>
            refine ⟨i + 1, by omega, by go_num, rfl, ?_, HBSS.out⟩
            intro a ha
            by_cases e : a = i
            · subst e
              exact HOJ.out
            · exact HOK.out a (by omega)
          case measure => simp [intOf]; omega
    · obtain rfl : m = i := by omega
      have HG : Hid (ans = true) := Lib.hid (HYY.out HOK.out)
      go_wp2
      try rw [Exit.noGoto_ret]
      go_ret
      exact ⟨by (rw [HG.out]; try rfl), HBW.out⟩
end Go.Proofs.Ytlamclhhocofiab
