/- SquareWays, of both, by contracts; the walk of its law. -/
import Derived.Test.YtimpgbifnijkkabGreatNM
import Derived.Test.YtimpgbifnijkkabGreatKJ
import Derived.Deep.RegionHeld3
namespace Go.Proofs.YtimpgbifnijkkabGreat
open Go.RowKit
set_option maxHeartbeats 2000000 in
/-- The closure of impl.mapped over elements, at that closure. -/
theorem clo_way (q x y : Int) (KA KB i n g cap A0 A1 : Nat) (w : World) (hin : i < n)
    (HX : ∀ w', Below w.heap.size w w' → Calls Tryz.prog 24 #[elE q x, .pointer (some ⟨KA, 0, none⟩), .pointer (some ⟨KB, 0, none⟩)] w' fun e w'' => e = .returned (elE q y) ∧ Below w'.heap.size w' w'')
    (hc : w.cell? ⟨A0, 0, none⟩ = some (.func (.func 24) #[] #[.pointer (some ⟨KA, 0, none⟩), .pointer (some ⟨KB, 0, none⟩)]) ∧ w.cell? ⟨A1, 0, none⟩ = some (.slice (some ⟨g, 0, none⟩) n cap) ∧ w.cell? ⟨g, i * 7, none⟩ = some (.int .i64 q) ∧ w.cell? ⟨g, i * 7 + 1, none⟩ = some (.int .i64 (pr q)) ∧ w.cell? ⟨g, i * 7 + 2, none⟩ = some (.int .i64 (pl q)) ∧ w.cell? ⟨g, i * 7 + 3, none⟩ = some (.int .i64 (dg q x 0)) ∧ w.cell? ⟨g, i * 7 + 4, none⟩ = some (.int .i64 (dg q x 1)) ∧ w.cell? ⟨g, i * 7 + 5, none⟩ = some (.int .i64 (dg q x 2)) ∧ w.cell? ⟨g, i * 7 + 6, none⟩ = some (.int .i64 (dg q x 3))) :
    Calls Tryz.prog 62 #[.int .i64 i, .pointer (some ⟨A0, 0, none⟩), .pointer (some ⟨A1, 0, none⟩)] w fun e w' => e = .returned (elE q y) ∧ Below w.heap.size w w' := by
  have HXX := Lib.hid HX; clear HX
  obtain ⟨c0, c1, e0, e1, e2, e3, e4, e5, e6⟩ := hc
  have l0 := World.block_lt_of_cell? w _ c0
  have l1 := World.block_lt_of_cell? w _ c1
  have l2 := World.block_lt_of_cell? w _ e0
  simp only at l0 l1 l2
  have HKEEP : Hid (∀ w', Below w.heap.size w w' → w'.cell? ⟨A0, 0, none⟩ = some (.func (.func 24) #[] #[.pointer (some ⟨KA, 0, none⟩), .pointer (some ⟨KB, 0, none⟩)]) ∧ w'.cell? ⟨A1, 0, none⟩ = some (.slice (some ⟨g, 0, none⟩) n cap) ∧ w'.cell? ⟨g, i * 7, none⟩ = some (.int .i64 q) ∧ w'.cell? ⟨g, i * 7 + 1, none⟩ = some (.int .i64 (pr q)) ∧ w'.cell? ⟨g, i * 7 + 2, none⟩ = some (.int .i64 (pl q)) ∧ w'.cell? ⟨g, i * 7 + 3, none⟩ = some (.int .i64 (dg q x 0)) ∧ w'.cell? ⟨g, i * 7 + 4, none⟩ = some (.int .i64 (dg q x 1)) ∧ w'.cell? ⟨g, i * 7 + 5, none⟩ = some (.int .i64 (dg q x 2)) ∧ w'.cell? ⟨g, i * 7 + 6, none⟩ = some (.int .i64 (dg q x 3))) := Lib.hid fun w' hb => by
    exact ⟨(hb.cell (p := ⟨A0, 0, none⟩) l0).trans c0, (hb.cell (p := ⟨A1, 0, none⟩) l1).trans c1, (hb.cell (p := ⟨g, i * 7, none⟩) l2).trans e0, (hb.cell (p := ⟨g, i * 7 + 1, none⟩) l2).trans e1, (hb.cell (p := ⟨g, i * 7 + 2, none⟩) l2).trans e2, (hb.cell (p := ⟨g, i * 7 + 3, none⟩) l2).trans e3, (hb.cell (p := ⟨g, i * 7 + 4, none⟩) l2).trans e4, (hb.cell (p := ⟨g, i * 7 + 5, none⟩) l2).trans e5, (hb.cell (p := ⟨g, i * 7 + 6, none⟩) l2).trans e6⟩
  go_enter Tryz.func62, Tryz.ntmps62
  go_wp2_with fail
  go_region_held3 (fun w' => w'.cell? ⟨A0, 0, none⟩ = some (.func (.func 24) #[] #[.pointer (some ⟨KA, 0, none⟩), .pointer (some ⟨KB, 0, none⟩)]) ∧ w'.cell? ⟨A1, 0, none⟩ = some (.slice (some ⟨g, 0, none⟩) n cap) ∧ w'.cell? ⟨g, i * 7, none⟩ = some (.int .i64 q) ∧ w'.cell? ⟨g, i * 7 + 1, none⟩ = some (.int .i64 (pr q)) ∧ w'.cell? ⟨g, i * 7 + 2, none⟩ = some (.int .i64 (pl q)) ∧ w'.cell? ⟨g, i * 7 + 3, none⟩ = some (.int .i64 (dg q x 0)) ∧ w'.cell? ⟨g, i * 7 + 4, none⟩ = some (.int .i64 (dg q x 1)) ∧ w'.cell? ⟨g, i * 7 + 5, none⟩ = some (.int .i64 (dg q x 2)) ∧ w'.cell? ⟨g, i * 7 + 6, none⟩ = some (.int .i64 (dg q x 3)))
    (exact HKEEP.out _ (by (try have hb1 := HB1.out); (repeat' (first | (with_reducible assumption) | (with_reducible exact Below.refl _ _) | (with_reducible refine below_drewN ?_ _) | (with_reducible refine Below.drew ?_) | (with_reducible refine Below.alloc ?_ ?_ _) | (with_reducible refine Below.setCell ?_ ?_ _) | (with_reducible refine Below.trans ?_ (Below.mono (by assumption) ?_)) | (with_reducible exact Nat.le_refl _) | (with_reducible assumption) | omega | (simp; omega) | (simp; done)))))
    (first | (go_at_call 24; refine (HXX.out _ (by (repeat' (first | (with_reducible assumption) | (with_reducible exact Below.refl _ _) | (with_reducible refine below_drewN ?_ _) | (with_reducible refine Below.drew ?_) | (with_reducible refine Below.alloc ?_ ?_ _) | (with_reducible refine Below.setCell ?_ ?_ _) | (with_reducible refine Below.trans ?_ (Below.mono (by assumption) ?_)) | (with_reducible exact Nat.le_refl _) | (with_reducible assumption) | omega | (simp; omega) | (simp; done))))).mono ?_; rintro e w1 ⟨rfl, hb1⟩; obtain ⟨hc1, hf1⟩ := bcell hb1; (try simp only [World.size_drew] at hc1 hf1); have hz1 := hb1.size; (try simp at hz1); have HB1 := Lib.hid hb1; clear hb1; have l3 : w.heap.size < w1.heap.size := (by omega)))
  all_goals
    go_wp2_with fail
    have hb1 := HB1.out
    have q0 : w1.heap[w.heap.size]? = some zeroblk := (hb1.block _ (by simp)).trans (heap_alloc_new w _)
    obtain ⟨s0, s1, s2, s3, s4, s5, s6, sf, sl⟩ := seven q0
    clear q0
    refine bodyPost_ret (v := elE q y) (by simp [results, Tryz.results62, go_sem, s0, s1, s2, s3, s4, s5, s6]) rfl ⟨rfl, ?_⟩
    (repeat' (first | (with_reducible assumption) | (with_reducible exact Below.refl _ _) | (with_reducible refine below_drewN ?_ _) | (with_reducible refine Below.drew ?_) | (with_reducible refine Below.alloc ?_ ?_ _) | (with_reducible refine Below.setCell ?_ ?_ _) | (with_reducible refine Below.trans ?_ (Below.mono (by assumption) ?_)) | (with_reducible exact Nat.le_refl _) | (with_reducible assumption) | omega | (simp; omega) | (simp; done)))
set_option maxHeartbeats 2000000 in
/-- impl.mapped over elements, at that closure. -/
theorem mapped_way (q : Int) (KA KB : Nat) (v : Value) (f f2 : Nat → Int) (n : Nat) (w : World) (hv : Se w v q f n) (hl : n ≤ 1000)
    (HC : ∀ i, i < n → ∀ w', Below w.heap.size w w' → Calls Tryz.prog 24 #[elE q (f i), .pointer (some ⟨KA, 0, none⟩), .pointer (some ⟨KB, 0, none⟩)] w' fun e w'' => e = .returned (elE q (f2 i)) ∧ Below w'.heap.size w' w'') :
    Calls Tryz.prog 28 #[v, .func (.func 24) #[] #[.pointer (some ⟨KA, 0, none⟩), .pointer (some ⟨KB, 0, none⟩)]] w fun e w' => ∃ g, e = .returned (.slice (some ⟨g, 0, none⟩) n n) ∧ w.heap.size ≤ g ∧ Blk w' g n ∧ Els w' g q f2 n ∧ Below w.heap.size w w' := by
  obtain ⟨g, cap, rfl, hg, he⟩ := hv
  have HX : Hid (∀ (T1 T2 : TypeId) (i : Nat) w', i < n → Below ((w.alloc (.cells #[.slice (some ⟨g, 0, none⟩) n cap] T1)).alloc (.cells #[.func (.func 24) #[] #[.pointer (some ⟨KA, 0, none⟩), .pointer (some ⟨KB, 0, none⟩)]] T2)).heap.size ((w.alloc (.cells #[.slice (some ⟨g, 0, none⟩) n cap] T1)).alloc (.cells #[.func (.func 24) #[] #[.pointer (some ⟨KA, 0, none⟩), .pointer (some ⟨KB, 0, none⟩)]] T2)) w' →
      Calls Tryz.prog 62 #[.int .i64 i, .pointer (some ⟨w.heap.size + 1, 0, none⟩), .pointer (some ⟨w.heap.size, 0, none⟩)] w' fun e w'' => e = .returned (elE q (f2 i)) ∧ Below w'.heap.size w' w'') := Lib.hid fun T1 T2 i w' hi hb => by
    have hbw : Below w.heap.size w w' := by (repeat' (first | (with_reducible assumption) | (with_reducible exact Below.refl _ _) | (with_reducible refine below_drewN ?_ _) | (with_reducible refine Below.drew ?_) | (with_reducible refine Below.alloc ?_ ?_ _) | (with_reducible refine Below.setCell ?_ ?_ _) | (with_reducible refine Below.trans ?_ (Below.mono (by assumption) ?_)) | (with_reducible exact Nat.le_refl _) | (with_reducible assumption) | omega | (simp; omega) | (simp; done)))
    obtain ⟨t0, t1⟩ := two w (.cells #[.slice (some ⟨g, 0, none⟩) n cap] T1) (.cells #[.func (.func 24) #[] #[.pointer (some ⟨KA, 0, none⟩), .pointer (some ⟨KB, 0, none⟩)]] T2)
    exact clo_way q _ _ KA KB i n g cap _ _ w' hi (fun w'' hb'' => HC i hi w'' (hbw.trans (hb''.mono hbw.size)))
      ⟨at_box (T := T2) ((hb.block _ (by simp)).trans t1), at_box (T := T1) ((hb.block _ (by simp; omega)).trans t0), (he.below hbw hg) i hi⟩
  clear HC he
  go_enter Tryz.func28, Tryz.ntmps28
  go_wp2_with fail
  refine (listOf_EE q n f2 (w.heap.size + 1) w.heap.size _ hl (HX.out _ _)).mono ?_
  rintro e w1 ⟨rfl, hk1, he1, hb1⟩
  have HK := Lib.hid hk1; clear hk1
  have HE := Lib.hid he1; clear he1
  have HB1 := Lib.hid hb1; clear hb1
  go_wp2
  go_ret
  have hb1 := HB1.out
  exact ⟨_, rfl, by omega, by simpa using HK.out, by simpa using HE.out, by (repeat' (first | (with_reducible assumption) | (with_reducible exact Below.refl _ _) | (with_reducible refine below_drewN ?_ _) | (with_reducible refine Below.drew ?_) | (with_reducible refine Below.alloc ?_ ?_ _) | (with_reducible refine Below.setCell ?_ ?_ _) | (with_reducible refine Below.trans ?_ (Below.mono (by assumption) ?_)) | (with_reducible exact Nat.le_refl _) | (with_reducible assumption) | omega | (simp; omega) | (simp; done)))⟩
/-- The way of an element. -/
def wyF (m : Nat) (a b x : Int) : Int := if nsq m x then mulF m x a else mulF m x b
/-- The model's table. -/
def kwF (m : Nat) (a b : Int) (x : Nat) : Int := if x = 0 then 0 else mulF m (if nsq m x then a else b) x
theorem kw_same {m : Nat} {a b : Int} (h : isSz (m : Int) = true) (a0 : 0 ≤ a) (a1 : a < m) (b0 : 0 ≤ b) (b1 : b < m) (x : Nat) (hx : x < m) : wyF m a b x = kwF m a b x := by
  unfold wyF kwF
  have x0 : (0 : Int) ≤ (x : Int) := by omega
  have x1 : (x : Int) < (m : Int) := by omega
  by_cases e : x = 0
  · subst e
    rw [if_pos rfl, show nsq m ((0 : Nat) : Int) = false from rfl, if_neg (by decide)]
    exact (mulF_one (m : Int) b h b0 b1).2.2.1
  · rw [if_neg e]
    cases nsq m x with
    | true => exact mulF_comm (m : Int) x a h x0 x1 a0 a1
    | false => exact mulF_comm (m : Int) x b h x0 x1 b0 b1
theorem wy_el {m : Nat} {a b x : Int} (h : isSz (m : Int) = true) (a0 : 0 ≤ a) (a1 : a < m) (b0 : 0 ≤ b) (b1 : b < m) (x0 : 0 ≤ x) (x1 : x < m) : 0 ≤ wyF m a b x ∧ wyF m a b x < m := by
  unfold wyF
  split
  · exact mulF_bd (m : Int) x a h x0 x1 a0 a1
  · exact mulF_bd (m : Int) x b h x0 x1 b0 b1
set_option maxHeartbeats 2000000 in
/-- The closure of impl.SquareWays. -/
theorem wayClo (m KA KB : Nat) (a b x : Int) (w : World) (h : isSz (m : Int) = true) (a0 : 0 ≤ a) (a1 : a < m) (b0 : 0 ≤ b) (b1 : b < m) (x0 : 0 ≤ x) (x1 : x < m) (hA : w.heap[KA]? = some (eblk (m : Int) a)) (hB : w.heap[KB]? = some (eblk (m : Int) b)) :
    Calls Tryz.prog 24 #[elE (m : Int) x, .pointer (some ⟨KA, 0, none⟩), .pointer (some ⟨KB, 0, none⟩)] w fun e w' => e = .returned (elE (m : Int) (wyF m a b x)) ∧ Below w.heap.size w w' := by
  have HQ := Lib.hid (fun w => nonzeroSqE m x w h x0 x1)
  have hlA := (Array.getElem?_eq_some_iff.1 hA).1
  have hlB := (Array.getElem?_eq_some_iff.1 hB).1
  cases hn : nsq m x with
  | true =>
    have HT := Lib.hid (fun w => timesE (m : Int) x a w h x0 x1 a0 a1)
    have e0 : wyF m a b x = mulF m x a := by unfold wyF; rw [hn]; rfl
    rw [hn] at HQ
    rw [e0]
    clear e0 hn h
    generalize mulF (m : Int) x a = y at *
    have HBK := Lib.hid hA
    clear hB hA
    go_enter Tryz.func24, Tryz.ntmps24
    go_wp2_with fail
    refine (HQ.out _).mono ?_
    rintro e w1 ⟨rfl, hb1⟩
    obtain ⟨hc1, hf1⟩ := bcell hb1; have hz1 := hb1.size; (try simp at hz1); have HB1 := Lib.hid hb1; clear hb1
    have l1 : w.heap.size + 1 < w1.heap.size := by omega
    have hk1 : w1.heap[KA]? = some (eblk (m : Int) a) := (Below.block (B := w.heap.size) (w := w) (by have hb1 := HB1.out; (repeat' (first | (with_reducible assumption) | (with_reducible exact Below.refl _ _) | (with_reducible refine below_drewN ?_ _) | (with_reducible refine Below.drew ?_) | (with_reducible refine Below.alloc ?_ ?_ _) | (with_reducible refine Below.setCell ?_ ?_ _) | (with_reducible refine Below.trans ?_ (Below.mono (by assumption) ?_)) | (with_reducible exact Nat.le_refl _) | (with_reducible assumption) | omega | (simp; omega) | (simp; done)))) _ hlA).trans HBK.out
    obtain ⟨p0, p1, p2, p3, p4, p5, p6, pf, pl0⟩ := seven hk1
    clear hk1
    go_wp2_with fail
    refine (HT.out _).mono ?_
    rintro e w2 ⟨rfl, hb2⟩
    obtain ⟨hc2, hf2⟩ := bcell hb2; have hz2 := hb2.size; (try simp at hz2); have HB2 := Lib.hid hb2; clear hb2
    go_wp2_with fail
    have hb1 := HB1.out
    have hb2 := HB2.out
    have hr : w2.heap[w.heap.size + 1]? = some zeroblk := (Below.block (B := w.heap.size + 2) (w := ((w.alloc (eblk (m : Int) x)).alloc zeroblk)) (by (repeat' (first | (with_reducible assumption) | (with_reducible exact Below.refl _ _) | (with_reducible refine below_drewN ?_ _) | (with_reducible refine Below.drew ?_) | (with_reducible refine Below.alloc ?_ ?_ _) | (with_reducible refine Below.setCell ?_ ?_ _) | (with_reducible refine Below.trans ?_ (Below.mono (by assumption) ?_)) | (with_reducible exact Nat.le_refl _) | (with_reducible assumption) | omega | (simp; omega) | (simp; done)))) _ (by omega)).trans (two w (eblk (m : Int) x) zeroblk).2
    obtain ⟨s0, s1, s2, s3, s4, s5, s6, sf, sl⟩ := seven hr
    refine bodyPost_ret (v := elE (m : Int) y) (by simp [results, Tryz.results24, go_sem, s0, s1, s2, s3, s4, s5, s6]) rfl ⟨rfl, ?_⟩
    (repeat' (first | (with_reducible assumption) | (with_reducible exact Below.refl _ _) | (with_reducible refine below_drewN ?_ _) | (with_reducible refine Below.drew ?_) | (with_reducible refine Below.alloc ?_ ?_ _) | (with_reducible refine Below.setCell ?_ ?_ _) | (with_reducible refine Below.trans ?_ (Below.mono (by assumption) ?_)) | (with_reducible exact Nat.le_refl _) | (with_reducible assumption) | omega | (simp; omega) | (simp; done)))
  | false =>
    have HT := Lib.hid (fun w => timesE (m : Int) x b w h x0 x1 b0 b1)
    have e0 : wyF m a b x = mulF m x b := by unfold wyF; rw [hn]; rfl
    rw [hn] at HQ
    rw [e0]
    clear e0 hn h
    generalize mulF (m : Int) x b = y at *
    have HBK := Lib.hid hB
    clear hB hA
    go_enter Tryz.func24, Tryz.ntmps24
    go_wp2_with fail
    refine (HQ.out _).mono ?_
    rintro e w1 ⟨rfl, hb1⟩
    obtain ⟨hc1, hf1⟩ := bcell hb1; have hz1 := hb1.size; (try simp at hz1); have HB1 := Lib.hid hb1; clear hb1
    have l1 : w.heap.size + 1 < w1.heap.size := by omega
    have hk1 : w1.heap[KB]? = some (eblk (m : Int) b) := (Below.block (B := w.heap.size) (w := w) (by have hb1 := HB1.out; (repeat' (first | (with_reducible assumption) | (with_reducible exact Below.refl _ _) | (with_reducible refine below_drewN ?_ _) | (with_reducible refine Below.drew ?_) | (with_reducible refine Below.alloc ?_ ?_ _) | (with_reducible refine Below.setCell ?_ ?_ _) | (with_reducible refine Below.trans ?_ (Below.mono (by assumption) ?_)) | (with_reducible exact Nat.le_refl _) | (with_reducible assumption) | omega | (simp; omega) | (simp; done)))) _ hlB).trans HBK.out
    obtain ⟨p0, p1, p2, p3, p4, p5, p6, pf, pl0⟩ := seven hk1
    clear hk1
    go_wp2_with fail
    refine (HT.out _).mono ?_
    rintro e w2 ⟨rfl, hb2⟩
    obtain ⟨hc2, hf2⟩ := bcell hb2; have hz2 := hb2.size; (try simp at hz2); have HB2 := Lib.hid hb2; clear hb2
    go_wp2_with fail
    have hb1 := HB1.out
    have hb2 := HB2.out
    have hr : w2.heap[w.heap.size + 1]? = some zeroblk := (Below.block (B := w.heap.size + 2) (w := ((w.alloc (eblk (m : Int) x)).alloc zeroblk)) (by (repeat' (first | (with_reducible assumption) | (with_reducible exact Below.refl _ _) | (with_reducible refine below_drewN ?_ _) | (with_reducible refine Below.drew ?_) | (with_reducible refine Below.alloc ?_ ?_ _) | (with_reducible refine Below.setCell ?_ ?_ _) | (with_reducible refine Below.trans ?_ (Below.mono (by assumption) ?_)) | (with_reducible exact Nat.le_refl _) | (with_reducible assumption) | omega | (simp; omega) | (simp; done)))) _ (by omega)).trans (two w (eblk (m : Int) x) zeroblk).2
    obtain ⟨s0, s1, s2, s3, s4, s5, s6, sf, sl⟩ := seven hr
    refine bodyPost_ret (v := elE (m : Int) y) (by simp [results, Tryz.results24, go_sem, s0, s1, s2, s3, s4, s5, s6]) rfl ⟨rfl, ?_⟩
    (repeat' (first | (with_reducible assumption) | (with_reducible exact Below.refl _ _) | (with_reducible refine below_drewN ?_ _) | (with_reducible refine Below.drew ?_) | (with_reducible refine Below.alloc ?_ ?_ _) | (with_reducible refine Below.setCell ?_ ?_ _) | (with_reducible refine Below.trans ?_ (Below.mono (by assumption) ?_)) | (with_reducible exact Nat.le_refl _) | (with_reducible assumption) | omega | (simp; omega) | (simp; done)))
theorem impl_SquareWays_no (q a b : Int) (w : World) (hd : odp q a b = false) :
    Calls Tryz.prog 6 #[.int .i64 q, .int .i64 a, .int .i64 b] w fun e w' => e = .returned (.tuple #[.slice none 0 0, .bool false]) ∧ Below w.heap.size w w' := by
  have HO := Lib.hid (fun w => oddPairOf_no q a b w hd)
  clear hd
  go_enter Tryz.func6, Tryz.ntmps6
  go_wp2_with fail
  refine (HO.out _).mono ?_
  rintro e w1 ⟨rfl, hb1⟩
  obtain ⟨hc1, hf1⟩ := bcell hb1; have hz1 := hb1.size; (try simp at hz1); have HB1 := Lib.hid hb1; clear hb1
  go_wp2
  go_ret2
  have hb1 := HB1.out
  exact ⟨rfl, by (repeat' (first | (with_reducible assumption) | (with_reducible exact Below.refl _ _) | (with_reducible refine below_drewN ?_ _) | (with_reducible refine Below.drew ?_) | (with_reducible refine Below.alloc ?_ ?_ _) | (with_reducible refine Below.setCell ?_ ?_ _) | (with_reducible refine Below.trans ?_ (Below.mono (by assumption) ?_)) | (with_reducible exact Nat.le_refl _) | (with_reducible assumption) | omega | (simp; omega) | (simp; done)))⟩
theorem spec_SquareWays_no (q a b : Int) (w : World) (hd : odp q a b = false) :
    Calls Tryz.prog 7 #[.int .i64 q, .int .i64 a, .int .i64 b] w fun e w' => e = .returned (.tuple #[.slice none 0 0, .bool false]) ∧ Below w.heap.size w w' := by
  have HO := Lib.hid (fun w => kdOdd_any q a b w)
  rw [hd] at HO
  clear hd
  go_enter Tryz.func7, Tryz.ntmps7
  go_wp2_with fail
  refine (HO.out _).mono ?_
  rintro e w1 ⟨rfl, hb1⟩
  go_wp2
  go_ret2
  exact ⟨rfl, hb1⟩
set_option maxHeartbeats 2000000 in
theorem impl_SquareWays_yes (m : Nat) (a b : Int) (w : World) (h : isSz (m : Int) = true) (ho : (m : Int) % 2 = 1) (ha : inE (m : Int) a = true) (hb : inE (m : Int) b = true) :
    Calls Tryz.prog 6 #[.int .i64 m, .int .i64 a, .int .i64 b] w fun e w' => ∃ v, e = .returned (.tuple #[v, .bool true]) ∧ Row w' w.heap.size v (fl (kwF m a b) m) ∧ Below w.heap.size w w' := by
  obtain ⟨_, a0, a1⟩ := inE_yes ha
  obtain ⟨_, b0, b1⟩ := inE_yes hb
  have hq := isSz_le (m : Int) h
  have HO := Lib.hid (fun w => oddPairOf_yes m a b w ha hb ho)
  have HEL := Lib.hid (fun w => elements_any (m : Int) w h)
  rw [Int.toNat_natCast] at HEL
  have HM := Lib.hid (fun KA KB v w (hv : Se w v (m : Int) (fun j => (j : Int)) m) (hA : w.heap[KA]? = some (eblk (m : Int) a)) (hB : w.heap[KB]? = some (eblk (m : Int) b)) => mapped_way (m : Int) KA KB v (fun j => (j : Int)) (fun j => wyF m a b (j : Int)) m w hv (by omega) (fun i hi w' hb => wayClo m KA KB a b (i : Int) w' h a0 a1 b0 b1 (by omega) (by omega) ((hb.block _ (Array.getElem?_eq_some_iff.1 hA).1).trans hA) ((hb.block _ (Array.getElem?_eq_some_iff.1 hB).1).trans hB)))
  have HN := Lib.hid (fun v w (hv : Se w v (m : Int) (fun j => wyF m a b (j : Int)) m) => mappedEI (m : Int) v (fun j => wyF m a b (j : Int)) m w h hv (fun i hi => wy_el h a0 a1 b0 b1 (by omega) (by omega)) (by omega))
  have HE : Hid (fl (fun j => wyF m a b (j : Int)) m = fl (kwF m a b) m) := Lib.hid (fl_congr fun i hi => kw_same h a0 a1 b0 b1 i hi)
  rw [HE.out] at HN
  clear h ha hb ho a0 a1 b0 b1 HE
  generalize fl (kwF m a b) m = r at *
  generalize (fun j : Nat => wyF m a b (j : Int)) = f2 at *
  go_enter Tryz.func6, Tryz.ntmps6
  go_wp2_with fail
  refine (HO.out _).mono ?_
  rintro e w1 ⟨rfl, hb1⟩
  obtain ⟨hc1, hf1⟩ := bcell hb1; have hz1 := hb1.size; (try simp at hz1); have HB1 := Lib.hid hb1; clear hb1
  go_wp2_with fail
  have HTW := Lib.hid (two w1 (eblk (m : Int) a) (eblk (m : Int) b))
  refine (HEL.out _).mono ?_
  rintro e w2 ⟨g2, cp2, rfl, hg2, hk2, he2, hb2⟩
  have HSE : Hid (Se w2 (.slice (some ⟨g2, 0, none⟩) m cp2) (m : Int) (fun j => (j : Int)) m) := Lib.hid ⟨g2, _, rfl, hk2.lt, he2⟩
  have HA2 : Hid (w2.heap[w1.heap.size]? = some (eblk (m : Int) a)) := Lib.hid ((hb2.block _ (by simp; omega)).trans HTW.out.1)
  have HB2' : Hid (w2.heap[w1.heap.size + 1]? = some (eblk (m : Int) b)) := Lib.hid ((hb2.block _ (by simp)).trans HTW.out.2)
  clear hk2 he2
  obtain ⟨hc2, hf2⟩ := bcell hb2; have hz2 := hb2.size; (try simp at hz2); have HB2 := Lib.hid hb2; clear hb2
  go_wp2_with fail
  refine (HM.out _ _ _ _ HSE.out HA2.out HB2'.out).mono ?_
  rintro e w3 ⟨g3, rfl, hg3, hk3, he3, hb3⟩
  have HSE3 : Hid (Se w3 (.slice (some ⟨g3, 0, none⟩) m m) (m : Int) f2 m) := Lib.hid ⟨g3, _, rfl, hk3.lt, he3⟩
  clear hk3 he3
  obtain ⟨hc3, hf3⟩ := bcell hb3; have hz3 := hb3.size; (try simp at hz3); have HB3 := Lib.hid hb3; clear hb3
  go_wp2_with fail
  refine (HN.out _ _ HSE3.out).mono ?_
  rintro e w4 ⟨v4, rfl, hr4, hb4⟩
  have HR4 := Lib.hid hr4; clear hr4
  obtain ⟨hc4, hf4⟩ := bcell hb4; have hz4 := hb4.size; (try simp at hz4); have HB4 := Lib.hid hb4; clear hb4
  go_wp2
  go_ret2
  have hb1 := HB1.out
  have hb2 := HB2.out
  have hb3 := HB3.out
  have hb4 := HB4.out
  exact ⟨_, rfl, HR4.out.mono (by (try simp); omega), by (repeat' (first | (with_reducible assumption) | (with_reducible exact Below.refl _ _) | (with_reducible refine below_drewN ?_ _) | (with_reducible refine Below.drew ?_) | (with_reducible refine Below.alloc ?_ ?_ _) | (with_reducible refine Below.setCell ?_ ?_ _) | (with_reducible refine Below.trans ?_ (Below.mono (by assumption) ?_)) | (with_reducible exact Nat.le_refl _) | (with_reducible assumption) | omega | (simp; omega) | (simp; done)))⟩
set_option maxHeartbeats 4000000 in
/-- spec.kdWays. -/
theorem kdWays_any (m : Nat) (a b : Int) (w : World) (h : isSz (m : Int) = true) (ho : (m : Int) % 2 = 1) (a0 : 0 ≤ a) (a1 : a < m) (b0 : 0 ≤ b) (b1 : b < m) :
    Calls Tryz.prog 32 #[.int .i64 m, .int .i64 a, .int .i64 b] w fun e w' => ∃ v, e = .returned v ∧ Row w' w.heap.size v (fl (kwF m a b) m) ∧ Below w.heap.size w w' := by
  have hq := isSz_le (m : Int) h
  obtain ⟨i0, hi, iz0, iz1, iz2⟩ := info_parts Tryz.infoI
  have HS := Lib.hid (fun (x : Nat) w (hx : x < m) => kdSquare_any m (x : Int) w h ho (by omega) (by omega))
  have HTA := Lib.hid (fun (x : Nat) w (hx : x < m) => fdTimes_any (m : Int) a (x : Int) w h a0 a1 (by omega) (by omega))
  have HTB := Lib.hid (fun (x : Nat) w (hx : x < m) => fdTimes_any (m : Int) b (x : Int) w h b0 b1 (by omega) (by omega))
  have HKA : Hid (∀ x : Nat, x ≠ 0 → nsq m x = true → kwF m a b x = mulF m a x) := Lib.hid fun x hx hn => by unfold kwF; rw [if_neg hx, hn]; rfl
  have HKB : Hid (∀ x : Nat, x ≠ 0 → nsq m x = false → kwF m a b x = mulF m b x) := Lib.hid fun x hx hn => by unfold kwF; rw [if_neg hx, hn]; rfl
  have HST := Lib.hid (part0_step (kwF m a b))
  have HAL := Lib.hid (part0_all (kwF m a b) m)
  have H01 : Hid (List.replicate m (0 : Int) = fl (part0 (kwF m a b) 1) m) := Lib.hid (by
    rw [part0_zero (kwF m a b) m]
    refine fl_congr fun i _ => ?_
    unfold part0
    by_cases hi0 : i = 0
    · subst hi0
      rw [if_neg (by omega), if_pos (by omega)]
      rfl
    · rw [if_neg (by omega), if_neg (by omega)])
  clear h ho a0 a1 b0 b1
  generalize kwF m a b = K at *
  go_enter Tryz.func32, Tryz.ntmps32
  go_wp2_with (at_make; refine wpList_make_full _ rfl _ _ 26 rfl w.heap.size 3 i0 (.int .i64 0) 1 Tryz.underlying26 hi iz0 iz1 .i64 .i64 _ _ m rfl rfl rfl rfl ?c3 ?c4 ?c5 ?_)
  case c3 => first | omega | (rw [iz2]; omega)
  case c4 => unfold maxLen; omega
  case c5 => omega
  intro w1 hown hgrow
  have hr : Row w1 w.heap.size (.slice (some ⟨w.heap.size, 0, none⟩) m m) (fl (part0 K 1) m) := by
    have := Row.madeF (fun _ => 0) hown
    rw [← H01.out, show List.replicate m (0 : Int) = fl (part0 (fun _ => 0) 0) m from part0_zero _ _]
    exact this
  have hb1 : Below w.heap.size w w1 := (Below.refl w.heap.size w).grown hgrow (Nat.le_refl _) (fun k hk => by cases hk)
  have HR := Lib.hid hr
  have HB1 := Lib.hid hb1
  clear hr hb1 hown hgrow
  go_wp2_with fail
  go_loopw [8] (fun vx wr => ∃ x : Nat, 1 ≤ x ∧ x ≤ m ∧ vx = .int .i64 x ∧ Row wr w.heap.size (.slice (some ⟨w.heap.size, 0, none⟩) m m) (fl (part0 K x) m) ∧ Below w.heap.size w wr) (fun vx _ => m - (intOf vx).toNat)
  case atStart => exact ⟨1, Nat.le_refl _, by omega, rfl, HR.out, HB1.out⟩
  case round =>
    obtain ⟨x, hx1, hxm, rfl, hr, hbw⟩ := hrel
    have HRR := Lib.hid hr
    have HBW := Lib.hid hbw
    have hgl : w.heap.size < wr.heap.size := (hr.lt w.heap.size rfl).2
    clear hr hbw
    by_cases hlt : x < m
    · have HS' := Lib.hid (fun w => HS.out x w hlt)
      have HST' := Lib.hid (HST.out x)
      cases hn : nsq m x with
      | true =>
        have HT' := Lib.hid (fun w => HTA.out x w hlt)
        have HK' := Lib.hid (HKA.out x (by omega) hn)
        rw [hn] at HS'
        clear hn
        go_wp2_with fail
        refine (HS'.out _).mono ?_
        rintro e w2 ⟨rfl, hb2⟩
        have HR2 := Lib.hid (HRR.out.below hb2)
        have HB2 := Lib.hid (HBW.out.trans (hb2.mono (by omega)))
        have hz2 := hb2.size
        clear hb2
        go_wp2_with fail
        refine (HT'.out _).mono ?_
        rintro e w3 ⟨rfl, hb3⟩
        have hr3 := HR2.out.below hb3
        have HB3 := Lib.hid (HB2.out.trans (hb3.mono (by omega)))
        have hz3 := hb3.size
        have hr3' : Row w3 w.heap.size (.slice (some ⟨w.heap.size, 0, none⟩) (fl (part0 K x) m).length m) (fl (part0 K x) m) := by rw [fl_len]; exact hr3
        have hc := hr3'.cell x (by rw [fl_len]; exact hlt)
        have hf := hr3.frozen (by rw [fl_len]) x
        have hr4 := hr3.store (by rw [fl_len]) x (mulF m a x)
        rw [fl_set, ← HK'.out, HST'.out] at hr4
        have HR4 := Lib.hid hr4
        rw [← HK'.out]
        clear hr3 hr3' hr4 hb3
        generalize (fl (part0 K x) m).getD x 0 = old at *
        generalize K x = kx at *
        go_wp2
        go_roundw
        case rel => exact ⟨x + 1, by omega, by omega, by first | rfl | go_num, HR4.out, by have hb3 := HB3.out; (repeat' (first | (with_reducible assumption) | (with_reducible exact Below.refl _ _) | (with_reducible refine below_drewN ?_ _) | (with_reducible refine Below.drew ?_) | (with_reducible refine Below.alloc ?_ ?_ _) | (with_reducible refine Below.setCell ?_ ?_ _) | (with_reducible refine Below.trans ?_ (Below.mono (by assumption) ?_)) | (with_reducible exact Nat.le_refl _) | (with_reducible assumption) | omega | (simp; omega) | (simp; done)))⟩
        case measure => simp [intOf]; omega
      | false =>
        have HT' := Lib.hid (fun w => HTB.out x w hlt)
        have HK' := Lib.hid (HKB.out x (by omega) hn)
        rw [hn] at HS'
        clear hn
        go_wp2_with fail
        refine (HS'.out _).mono ?_
        rintro e w2 ⟨rfl, hb2⟩
        have HR2 := Lib.hid (HRR.out.below hb2)
        have HB2 := Lib.hid (HBW.out.trans (hb2.mono (by omega)))
        have hz2 := hb2.size
        clear hb2
        go_wp2_with fail
        refine (HT'.out _).mono ?_
        rintro e w3 ⟨rfl, hb3⟩
        have hr3 := HR2.out.below hb3
        have HB3 := Lib.hid (HB2.out.trans (hb3.mono (by omega)))
        have hz3 := hb3.size
        have hr3' : Row w3 w.heap.size (.slice (some ⟨w.heap.size, 0, none⟩) (fl (part0 K x) m).length m) (fl (part0 K x) m) := by rw [fl_len]; exact hr3
        have hc := hr3'.cell x (by rw [fl_len]; exact hlt)
        have hf := hr3.frozen (by rw [fl_len]) x
        have hr4 := hr3.store (by rw [fl_len]) x (mulF m b x)
        rw [fl_set, ← HK'.out, HST'.out] at hr4
        have HR4 := Lib.hid hr4
        rw [← HK'.out]
        clear hr3 hr3' hr4 hb3
        generalize (fl (part0 K x) m).getD x 0 = old at *
        generalize K x = kx at *
        go_wp2
        go_roundw
        case rel => exact ⟨x + 1, by omega, by omega, by first | rfl | go_num, HR4.out, by have hb3 := HB3.out; (repeat' (first | (with_reducible assumption) | (with_reducible exact Below.refl _ _) | (with_reducible refine below_drewN ?_ _) | (with_reducible refine Below.drew ?_) | (with_reducible refine Below.alloc ?_ ?_ _) | (with_reducible refine Below.setCell ?_ ?_ _) | (with_reducible refine Below.trans ?_ (Below.mono (by assumption) ?_)) | (with_reducible exact Nat.le_refl _) | (with_reducible assumption) | omega | (simp; omega) | (simp; done)))⟩
        case measure => simp [intOf]; omega
    · obtain rfl : m = x := by omega
      rw [HAL.out] at HRR
      go_wp2
      go_ret
      exact ⟨_, rfl, HRR.out, HBW.out⟩
theorem spec_SquareWays_yes (m : Nat) (a b : Int) (w : World) (hd : odp (m : Int) a b = true) (h : isSz (m : Int) = true) (ho : (m : Int) % 2 = 1) (ha : inE (m : Int) a = true) (hb : inE (m : Int) b = true) :
    Calls Tryz.prog 7 #[.int .i64 m, .int .i64 a, .int .i64 b] w fun e w' => ∃ v, e = .returned (.tuple #[v, .bool true]) ∧ Row w' w.heap.size v (fl (kwF m a b) m) ∧ Below w.heap.size w w' := by
  obtain ⟨_, a0, a1⟩ := inE_yes ha
  obtain ⟨_, b0, b1⟩ := inE_yes hb
  have HO := Lib.hid (fun w => kdOdd_any (m : Int) a b w)
  rw [hd] at HO
  have HK := Lib.hid (fun w => kdWays_any m a b w h ho a0 a1 b0 b1)
  clear h ha hb hd ho
  generalize fl (kwF m a b) m = r at *
  go_enter Tryz.func7, Tryz.ntmps7
  go_wp2_with fail
  refine (HO.out _).mono ?_
  rintro e w1 ⟨rfl, hb1⟩
  obtain ⟨hc1, hf1⟩ := bcell hb1; have hz1 := hb1.size; (try simp at hz1); have HB1 := Lib.hid hb1; clear hb1
  go_wp2_with fail
  refine (HK.out _).mono ?_
  rintro e w2 ⟨v2, rfl, hr2, hb2⟩
  have HR2 := Lib.hid hr2; clear hr2
  obtain ⟨hc2, hf2⟩ := bcell hb2; have hz2 := hb2.size; (try simp at hz2); have HB2 := Lib.hid hb2; clear hb2
  go_wp2
  go_ret2
  have hb1 := HB1.out
  have hb2 := HB2.out
  exact ⟨_, rfl, HR2.out.mono (by (try simp); omega), by (repeat' (first | (with_reducible assumption) | (with_reducible exact Below.refl _ _) | (with_reducible refine below_drewN ?_ _) | (with_reducible refine Below.drew ?_) | (with_reducible refine Below.alloc ?_ ?_ _) | (with_reducible refine Below.setCell ?_ ?_ _) | (with_reducible refine Below.trans ?_ (Below.mono (by assumption) ?_)) | (with_reducible exact Nat.le_refl _) | (with_reducible assumption) | omega | (simp; omega) | (simp; done)))⟩
theorem key_SquareWays (q a b : Int) : ∃ (r : List Int) (o : Bool), r.length ≤ 1048576 ∧ (∀ (w : World), Calls Tryz.prog 7 #[.int .i64 q, .int .i64 a, .int .i64 b] w fun e w' => ∃ v, e = .returned (.tuple #[v, .bool o]) ∧ Row w' w.heap.size v r ∧ Below w.heap.size w w') ∧
      (∀ (w : World), Calls Tryz.prog 6 #[.int .i64 q, .int .i64 a, .int .i64 b] w fun e w' => ∃ v, e = .returned (.tuple #[v, .bool o]) ∧ Row w' w.heap.size v r ∧ Below w.heap.size w w') := by
  cases h : odp q a b with
  | false => exact ⟨[], false, by simp, fun w => (spec_SquareWays_no q a b w h).mono fun _ _ ⟨he, hb⟩ => ⟨_, he, Row.nil _ _, hb⟩, fun w => (impl_SquareWays_no q a b w h).mono fun _ _ ⟨he, hb⟩ => ⟨_, he, Row.nil _ _, hb⟩⟩
  | true =>
    obtain ⟨m, rfl, hs, ho, ha, hb⟩ := odp_nat h
    have hq := isSz_le (m : Int) hs
    exact ⟨_, true, by rw [fl_len]; omega, fun w => spec_SquareWays_yes m a b w h hs ho ha hb, fun w => impl_SquareWays_yes m a b w hs ho ha hb⟩
end Go.Proofs.YtimpgbifnijkkabGreat
