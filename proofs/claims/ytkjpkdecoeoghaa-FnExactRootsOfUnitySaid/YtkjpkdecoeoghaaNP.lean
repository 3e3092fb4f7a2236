/- Roots of unity, kept in an array: RootsOfUnity, of both, by contracts; the walk of its law. -/
import Derived.Test.YtkjpkdecoeoghaaNJ
import Derived.Laws.Rows
import Derived.Deep.RegionWith
import Derived.Laws.CopyOwn
namespace Go.Proofs.Ytkjpkdecoeoghaa
open Go.RowKit
/-- '==' on two elements, at their digits. -/
theorem eq_dgr (q x y : Int) (h : isSz q = true) (x0 : 0 ≤ x) (x1 : x < q) (y0 : 0 ≤ y) (y1 : y < q) (w : World) :
    (Op.equalIn 9999 40 (.agg #[.int .i64 (dg q x 0), .int .i64 (dg q x 1), .int .i64 (dg q x 2), .int .i64 (dg q x 3)]) (.agg #[.int .i64 (dg q y 0), .int .i64 (dg q y 1), .int .i64 (dg q y 2), .int .i64 (dg q y 3)])).run Try.prog w = .ok (decide (x = y)) w := by
  rw [← dg_inj q x y h x0 x1 y0 y1]
  exact eq_arr 40 Try.underlying40 _ _ _ _ _ _ _ _ 9997 w
/-- Elements behind a first cell. -/
def ElO (w : World) (g : Nat) (q : Int) (f : Nat → Int) (n : Nat) : Prop := ∀ j, j < n → w.cell? ⟨g, 1 + j * 7, none⟩ = some (.int .i64 q) ∧ w.cell? ⟨g, 1 + j * 7 + 1, none⟩ = some (.int .i64 (pr q)) ∧ w.cell? ⟨g, 1 + j * 7 + 2, none⟩ = some (.int .i64 (pl q)) ∧ w.cell? ⟨g, 1 + j * 7 + 3, none⟩ = some (.int .i64 (dg q (f j) 0)) ∧ w.cell? ⟨g, 1 + j * 7 + 4, none⟩ = some (.int .i64 (dg q (f j) 1)) ∧ w.cell? ⟨g, 1 + j * 7 + 5, none⟩ = some (.int .i64 (dg q (f j) 2)) ∧ w.cell? ⟨g, 1 + j * 7 + 6, none⟩ = some (.int .i64 (dg q (f j) 3))
theorem ElO.below {w w' : World} {g n B : Nat} {q : Int} {f : Nat → Int} (h : ElO w g q f n) (hb : Below B w w') (hg : g < B) : ElO w' g q f n := fun j hj => by
  obtain ⟨hc, _⟩ := bcell hb
  simp only [hc _ _ hg]
  exact h j hj
set_option maxHeartbeats 1000000 in
/-- The closure of impl.mapped over elements, at impl.element.number. -/
theorem cloEI1 (q x : Int) (i n g cap A0 A1 : Nat) (w : World) (h : isSz q = true) (x0 : 0 ≤ x) (x1 : x < q) (hin : i < n)
    (c0 : w.cell? ⟨A0, 0, none⟩ = some (.func (.func 20) #[] #[])) (c1 : w.cell? ⟨A1, 0, none⟩ = some (.slice (some ⟨g, 1, none⟩) n cap))
    (he : w.cell? ⟨g, 1 + i * 7, none⟩ = some (.int .i64 q) ∧ w.cell? ⟨g, 1 + i * 7 + 1, none⟩ = some (.int .i64 (pr q)) ∧ w.cell? ⟨g, 1 + i * 7 + 2, none⟩ = some (.int .i64 (pl q)) ∧
      w.cell? ⟨g, 1 + i * 7 + 3, none⟩ = some (.int .i64 (dg q x 0)) ∧ w.cell? ⟨g, 1 + i * 7 + 4, none⟩ = some (.int .i64 (dg q x 1)) ∧ w.cell? ⟨g, 1 + i * 7 + 5, none⟩ = some (.int .i64 (dg q x 2)) ∧ w.cell? ⟨g, 1 + i * 7 + 6, none⟩ = some (.int .i64 (dg q x 3))) :
    Calls Try.prog 32 #[.int .i64 i, .pointer (some ⟨A0, 0, none⟩), .pointer (some ⟨A1, 0, none⟩)] w fun e w' => e = .returned (.int .i64 x) ∧ Below w.heap.size w w' := by
  have HE := Lib.hid (fun w => numberE q x w h x0 x1)
  obtain ⟨e0, e1, e2, e3, e4, e5, e6⟩ := he
  clear h x0 x1
  go_enter Try.func32, Try.ntmps32
  go_wp2_with fail
  go_region_with (go_at_call 20; refine (HE.out _).mono ?_; rintro e w1 ⟨rfl, hb1⟩; obtain ⟨hc1, hf1⟩ := bcell hb1; (try simp only [World.size_drew] at hc1 hf1); have hz1 := hb1.size; (try simp at hz1); have HB1 := Lib.hid hb1; clear hb1)
  all_goals
    go_wp2
    go_ret
    have hb1 := HB1.out
    exact ⟨rfl, by (repeat' (first | (with_reducible assumption) | (with_reducible exact Below.refl _ _) | (with_reducible refine below_drewN ?_ _) | (with_reducible refine Below.drew ?_) | (with_reducible refine Below.alloc ?_ ?_ _) | (with_reducible refine Below.setCell ?_ ?_ _) | (with_reducible refine Below.trans ?_ (Below.mono (by assumption) ?_)) | (with_reducible exact Nat.le_refl _) | (with_reducible assumption) | omega | (simp; omega) | (simp; done)))⟩
set_option maxHeartbeats 1000000 in
/-- impl.mapped over elements, at impl.element.number. -/
theorem mappedEI1 (q : Int) (g cap : Nat) (f : Nat → Int) (n : Nat) (w : World) (h : isSz q = true) (hg : g < w.heap.size) (he : ElO w g q f n) (ha : ∀ i, i < n → El q (f i)) (hl : n ≤ 1000) :
    Calls Try.prog 17 #[.slice (some ⟨g, 1, none⟩) n cap, .func (.func 20) #[] #[]] w fun e w' => ∃ v', e = .returned v' ∧ Row w' w.heap.size v' (fl f n) ∧ Below w.heap.size w w' := by
  have HX : Hid (∀ (T1 T2 : TypeId) (i : Nat) w', i < n → Below ((w.alloc (lblk T1 (.slice (some ⟨g, 1, none⟩) n cap))).alloc (lblk T2 (.func (.func 20) #[] #[]))).heap.size ((w.alloc (lblk T1 (.slice (some ⟨g, 1, none⟩) n cap))).alloc (lblk T2 (.func (.func 20) #[] #[]))) w' →
      Calls Try.prog 32 #[.int .i64 i, .pointer (some ⟨w.heap.size + 1, 0, none⟩), .pointer (some ⟨w.heap.size, 0, none⟩)] w' fun e w'' => e = .returned (.int .i64 (f i)) ∧ Below w'.heap.size w' w'') := Lib.hid fun T1 T2 i w' hi hb => by
    have hx := ha i hi
    have hz := hb.size
    simp at hz
    refine cloEI1 q _ i n g cap _ _ w' h hx.1 hx.2 hi (at_box (T := T2) ?_) (at_box (T := T1) ?_) ?_
    · rw [hb.block _ (by simp)]
      have := heap_alloc_new (w.alloc (lblk T1 (.slice (some ⟨g, 1, none⟩) n cap))) (lblk T2 (.func (.func 20) #[] #[]))
      simpa using this
    · rw [hb.block _ (by simp; omega), Below.heap_alloc _ _ _ (by simp)]
      exact heap_alloc_new w _
    · have hbw : Below w.heap.size w w' := by (repeat' (first | (with_reducible assumption) | (with_reducible exact Below.refl _ _) | (with_reducible refine below_drewN ?_ _) | (with_reducible refine Below.drew ?_) | (with_reducible refine Below.alloc ?_ ?_ _) | (with_reducible refine Below.setCell ?_ ?_ _) | (with_reducible refine Below.trans ?_ (Below.mono (by assumption) ?_)) | (with_reducible exact Nat.le_refl _) | (with_reducible assumption) | omega | (simp; omega) | (simp; done)))
      exact (he.below hbw hg) i hi
  clear ha h he
  go_enter Try.func17, Try.ntmps17
  go_wp2_with fail
  refine (listOf_EI n f (w.heap.size + 1) w.heap.size _ hl (HX.out _ _)).mono ?_
  rintro e w1 ⟨v, rfl, hr1, hb1⟩
  have HR := Lib.hid hr1; clear hr1
  have HB1 := Lib.hid hb1; clear hb1
  go_wp2
  go_ret
  have hb1 := HB1.out
  exact ⟨_, rfl, HR.out.mono (by simp; omega), by (repeat' (first | (with_reducible assumption) | (with_reducible exact Below.refl _ _) | (with_reducible refine below_drewN ?_ _) | (with_reducible refine Below.drew ?_) | (with_reducible refine Below.alloc ?_ ?_ _) | (with_reducible refine Below.setCell ?_ ?_ _) | (with_reducible refine Below.trans ?_ (Below.mono (by assumption) ?_)) | (with_reducible exact Nat.le_refl _) | (with_reducible assumption) | omega | (simp; omega) | (simp; done)))⟩
/-- The cells of roots that are a list's. -/
structure RV (cs : Array Value) (q : Int) (l : List Int) : Prop where
  size : cs.size = 106
  one : ∀ (i : Nat) (v : Value), cs[i]? = some v → v.oneCell' = true
  cnt : cs[0]? = some (.int .i64 l.length)
  els : ∀ j, j < l.length → ∀ b, b < 7 → cs[1 + j * 7 + b]? = (el7 q (l.getD j 0))[b]?
theorem rv_zero (q : Int) : RV Try.zeroCells46 q [] := by
  refine ⟨by kernel_rfl, fun i v h => ?_, by kernel_rfl, fun j hj => by simp at hj⟩
  have hall : (Try.zeroCells46.toList.all fun v => v.oneCell') = true := by kernel_rfl
  have hm : v ∈ Try.zeroCells46.toList := by
    rw [← Array.getElem?_toList] at h
    exact List.mem_of_getElem? h
  exact List.all_eq_true.1 hall v hm
theorem one_set {cs : Array Value} (h : ∀ (i : Nat) (v : Value), cs[i]? = some v → v.oneCell' = true) (k : Nat) (u : Value) (hu : u.oneCell' = true) : ∀ (i : Nat) (v : Value), (cs.setIfInBounds k u)[i]? = some v → v.oneCell' = true := by
  intro i v hv
  rw [Array.getElem?_setIfInBounds] at hv
  split at hv
  · split at hv
    · cases hv; exact hu
    · cases hv
  · exact h i v hv
theorem RV.all {cs : Array Value} {q : Int} {l : List Int} (h : RV cs q l) : cs.all (·.oneCell') = true := by
  rw [Array.all_eq_true]
  intro i hi
  exact h.one i _ (Array.getElem?_eq_getElem hi)
/-- One element set. -/
def arrO (cs : Array Value) (o : Nat) (q x : Int) : Array Value := ((((((cs.setIfInBounds o (.int .i64 q)).setIfInBounds (o + 1) (.int .i64 (pr q))).setIfInBounds (o + 2) (.int .i64 (pl q))).setIfInBounds (o + 3) (.int .i64 (dg q x 0))).setIfInBounds (o + 4) (.int .i64 (dg q x 1))).setIfInBounds (o + 5) (.int .i64 (dg q x 2))).setIfInBounds (o + 6) (.int .i64 (dg q x 3))
theorem arrO_size (cs : Array Value) (o : Nat) (q x : Int) : (arrO cs o q x).size = cs.size := by simp [arrO]
theorem arrO_out (cs : Array Value) (o : Nat) (q x : Int) (k : Nat) (h : k < o ∨ o + 6 < k) : (arrO cs o q x)[k]? = cs[k]? := by
  unfold arrO
  rw [Array.getElem?_setIfInBounds_ne (by omega), Array.getElem?_setIfInBounds_ne (by omega), Array.getElem?_setIfInBounds_ne (by omega), Array.getElem?_setIfInBounds_ne (by omega), Array.getElem?_setIfInBounds_ne (by omega), Array.getElem?_setIfInBounds_ne (by omega), Array.getElem?_setIfInBounds_ne (by omega)]
theorem arrO_in (cs : Array Value) (o : Nat) (q x : Int) (ho : o + 6 < cs.size) (b : Nat) (hb : b < 7) : (arrO cs o q x)[o + b]? = (el7 q x)[b]? := by
  have hc : b = 0 ∨ b = 1 ∨ b = 2 ∨ b = 3 ∨ b = 4 ∨ b = 5 ∨ b = 6 := by omega
  unfold arrO
  rcases hc with rfl | rfl | rfl | rfl | rfl | rfl | rfl
  all_goals
    simp only [Array.getElem?_setIfInBounds, Array.size_setIfInBounds, el7]
    repeat (first | rw [if_pos (by first | trivial | omega)] | rw [if_neg (by omega)])
    try rfl
theorem RV.add {cs : Array Value} {q : Int} {l : List Int} (h : RV cs q l) (hl : l.length < 15) (x : Int) : RV ((arrO cs (1 + l.length * 7) q x).setIfInBounds 0 (.int .i64 ((l.length : Int) + 1))) q (l ++ [x]) := by
  have hs := h.size
  refine ⟨by simp [arrO_size, hs], ?_, ?_, fun j hj b hb => ?_⟩
  · refine one_set ?_ _ _ rfl
    unfold arrO
    exact one_set (one_set (one_set (one_set (one_set (one_set (one_set h.one _ _ rfl) _ _ rfl) _ _ rfl) _ _ rfl) _ _ rfl) _ _ rfl) _ _ rfl
  · rw [Array.getElem?_setIfInBounds, if_pos rfl, if_pos (by rw [arrO_size]; omega)]
    simp
  · rw [Array.getElem?_setIfInBounds_ne (by omega)]
    rw [List.length_append, List.length_singleton] at hj
    by_cases e : j = l.length
    · subst e
      rw [arrO_in _ _ _ _ (by omega) b hb]
      simp [List.getD]
    · rw [arrO_out _ _ _ _ _ (by omega), h.els j (by omega) b hb]
      simp [List.getD, List.getElem?_append_left (show j < l.length by omega)]
theorem RV.elo {w : World} {g : Nat} {cs : Array Value} {q : Int} {l : List Int} (h : RV cs q l) (hg : w.heap[g]? = some (.cells cs 46 (0, 0))) : ElO w g q (fun i => l.getD i 0) l.length := fun j hj => by
  have hc : ∀ b, b < 7 → w.cell? ⟨g, 1 + j * 7 + b, none⟩ = (el7 q (l.getD j 0))[b]? := fun b hb => by
    rw [cell_of_row w g _ _ _ _ hg, h.els j hj b hb]
  exact ⟨hc 0 (by omega), hc 1 (by omega), hc 2 (by omega), hc 3 (by omega), hc 4 (by omega), hc 5 (by omega), hc 6 (by omega)⟩
/-- A root of unity. -/
def isRt (q : Int) (d : Nat) (a : Nat) : Bool := decide (a ≠ 0) && decide (pw q (a : Int) d = 1)
theorem rt_pos {q : Int} {d a : Nat} (h : a ≠ 0) : isRt q d a = decide (pw q (a : Int) d = 1) := by simp [isRt, h]
theorem rt_zero {q : Int} {d : Nat} (hs : isSz q = true) (hd : 1 ≤ d) : isRt q d 0 = decide (pw q ((0 : Nat) : Int) d = 1) := by
  have e : pw q 0 d = 0 := by
    obtain ⟨k, rfl⟩ : ∃ k, d = k + 1 := ⟨d - 1, by omega⟩
    have h0 := El.zero hs
    exact (mulF_one q (pw q 0 k) hs (pw_bd q 0 hs h0.1 h0.2 k).1 (pw_bd q 0 hs h0.1 h0.2 k).2).2.2.2
  rw [show ((0 : Nat) : Int) = 0 from rfl, e]
  rfl
theorem rt_all {q : Int} {d : Nat} (hs : isSz q = true) (hd : 1 ≤ d) (a : Nat) : isRt q d a = decide (pw q (a : Int) d = 1) := by
  by_cases h : a = 0
  · subst h; exact rt_zero hs hd
  · exact rt_pos h
theorem rt_few (q : Int) (d n : Nat) (hn : 1 ≤ n) : (wh (isRt q d) n).length + 1 ≤ n := by
  obtain ⟨k, rfl⟩ : ∃ k, n = k + 1 := ⟨n - 1, by omega⟩
  unfold wh
  rw [List.length_map, List.range_succ_eq_map, List.filter_cons, show isRt q d 0 = false from rfl]
  have := List.length_filter_le (isRt q d) (List.map Nat.succ (List.range k))
  rw [List.length_map, List.length_range] at this
  simp only [Bool.false_eq_true, if_false]
  omega
/-- The memory of rootsOfUnity between two rounds. -/
structure TQ (w0 wr : World) (m g : Nat) (l : List Int) (cs : Array Value) : Prop where
  hf : wr.heap[w0.heap.size]? = some (ffblk (m : Int))
  hz : wr.heap[w0.heap.size + 1]? = some (.cells Try.zeroCells46 46 (0, 0))
  hF : wr.heap[w0.heap.size + 2]? = some (.cells cs 46 (0, 0))
  rv : RV cs (m : Int) l
  he : Els wr g (m : Int) (fun j => (j : Int)) m
  gl : g < wr.heap.size
  bel : Below w0.heap.size w0 wr
  lt : w0.heap.size + 2 < g
theorem TQ.below {w0 wr w' : World} {m g B : Nat} {l : List Int} {cs : Array Value} (h : TQ w0 wr m g l cs) (hb : Below B wr w') (hB : wr.heap.size ≤ B) : TQ w0 w' m g l cs := by
  have h1 := h.gl
  have h2 := h.lt
  have h3 := h.bel.size
  have h4 := hb.size
  exact ⟨(hb.block _ (by omega)).trans h.hf, (hb.block _ (by omega)).trans h.hz, (hb.block _ (by omega)).trans h.hF, h.rv, h.he.below hb (by omega), by omega, h.bel.trans (hb.mono (by omega)), h2⟩
theorem row_has {w : World} {b : Nat} {cs : Array Value} {t : Nat} (h : w.heap[b]? = some (.cells cs t (0, 0))) (o : Nat) (ho : o < cs.size) : ∃ v, w.cell? ⟨b, o, none⟩ = some v := ⟨cs[o], by rw [cell_of_row w b _ _ _ _ h]; exact Array.getElem?_eq_getElem ho⟩
abbrev putO (w : World) (b o : Nat) (q a : Int) : World := ((((((w.setCell ⟨b, o, none⟩ (.int .i64 q)).setCell ⟨b, o + 1, none⟩ (.int .i64 (pr q))).setCell ⟨b, o + 2, none⟩ (.int .i64 (pl q))).setCell ⟨b, o + 3, none⟩ (.int .i64 (dg q a 0))).setCell ⟨b, o + 4, none⟩ (.int .i64 (dg q a 1))).setCell ⟨b, o + 5, none⟩ (.int .i64 (dg q a 2))).setCell ⟨b, o + 6, none⟩ (.int .i64 (dg q a 3))
theorem TQ.add {w0 wr : World} {m g : Nat} {l : List Int} {cs : Array Value} (h : TQ w0 wr m g l cs) (hl : l.length < 15) (x : Int) : TQ w0 ((putO wr (w0.heap.size + 2) (1 + l.length * 7) (m : Int) x).setCell ⟨w0.heap.size + 2, 0, none⟩ (.int .i64 ((l.length : Int) + 1))) m g (l ++ [x]) ((arrO cs (1 + l.length * 7) (m : Int) x).setIfInBounds 0 (.int .i64 ((l.length : Int) + 1))) := by
  have h2 := h.lt
  have h3 := h.bel.size
  have ho : ∀ k, k ≠ w0.heap.size + 2 → ((putO wr (w0.heap.size + 2) (1 + l.length * 7) (m : Int) x).setCell ⟨w0.heap.size + 2, 0, none⟩ (.int .i64 ((l.length : Int) + 1))).heap[k]? = wr.heap[k]? := fun k hk => by
    unfold putO
    rw [heap_setCell_other _ _ _ _ hk, heap_setCell_other _ _ _ _ hk, heap_setCell_other _ _ _ _ hk, heap_setCell_other _ _ _ _ hk, heap_setCell_other _ _ _ _ hk, heap_setCell_other _ _ _ _ hk, heap_setCell_other _ _ _ _ hk, heap_setCell_other _ _ _ _ hk]
  refine ⟨(ho _ (by omega)).trans h.hf, (ho _ (by omega)).trans h.hz, ?_, h.rv.add hl x, h.he.same (ho g (by omega)), by simp [putO]; exact h.gl, ?_, h2⟩
  · exact heap_setCell_same _ _ _ _ _ _ (heap_setCell_same _ _ _ _ _ _ (heap_setCell_same _ _ _ _ _ _ (heap_setCell_same _ _ _ _ _ _ (heap_setCell_same _ _ _ _ _ _ (heap_setCell_same _ _ _ _ _ _ (heap_setCell_same _ _ _ _ _ _ (heap_setCell_same _ _ _ _ _ _ h.hF)))))))
  · have hb := h.bel
    (repeat' (first | (with_reducible assumption) | (with_reducible exact Below.refl _ _) | (with_reducible refine below_drewN ?_ _) | (with_reducible refine Below.drew ?_) | (with_reducible refine Below.alloc ?_ ?_ _) | (with_reducible refine Below.setCell ?_ ?_ _) | (with_reducible refine Below.trans ?_ (Below.mono (by assumption) ?_)) | (with_reducible exact Nat.le_refl _) | (with_reducible assumption) | omega | (simp; omega) | (simp; done)))
set_option maxRecDepth 100000 in
set_option maxHeartbeats 4000000 in
/-- impl.field.rootsOfUnity. -/
theorem rootsE (m d : Nat) (w : World) (h : isSz (m : Int) = true) (hd1 : 1 ≤ d) (hd : d ≤ 15) :
    Calls Try.prog 18 #[fdE (m : Int), .int .i64 d] w fun e w' => ∃ cs, e = .returned (.agg cs) ∧ RV cs (m : Int) (wh (isRt (m : Int) d) m) ∧ Below w.heap.size w w' := by
  have hq := isSz_le (m : Int) h
  have HE := Lib.hid (fun w => elements_any (m : Int) w h)
  rw [Int.toNat_natCast] at HE
  have HO := Lib.hid (fun w => oneE (m : Int) w h)
  have HP := Lib.hid (fun (i : Nat) w (hi : i < m) => by have := powerE (m : Int) (i : Int) (d : Int) w h (by omega) (by omega) (by omega) (by omega); rw [Int.toNat_natCast] at this; exact this)
  have HEQ := Lib.hid (fun (i : Nat) w (hi : i < m) => eq_dgr (m : Int) (pw (m : Int) (i : Int) d) 1 h (El.pw h (El.nat hi) d).1 (El.pw h (El.nat hi) d).2 (El.one h).1 (El.one h).2 w)
  have HRT := Lib.hid (fun a => rt_all (d := d) h hd1 a)
  have HFEW := Lib.hid (fun n hn => rt_few (m : Int) d n hn)
  have HW0 : Hid (wh (isRt (m : Int) d) 0 = []) := Lib.hid rfl
  have HY := Lib.hid (fun n (hp : isRt (m : Int) d n = true) => wh_yes (isRt (m : Int) d) n hp)
  have HN := Lib.hid (fun n (hp : isRt (m : Int) d n = false) => wh_no (isRt (m : Int) d) n hp)
  clear h
  go_enter Try.func18, Try.ntmps18
  go_wp2_with fail
  have HTH := Lib.hid (three w (ffblk (m : Int)) (.cells Try.zeroCells46 46 (0, 0)) (.cells Try.zeroCells46 46 (0, 0)))
  refine (HE.out _).mono ?_
  rintro e w1 ⟨g, cp, rfl, hg, hk1, he1, hb1⟩
  simp at hg
  have htq : TQ w w1 m g [] Try.zeroCells46 := ⟨(hb1.block _ (by simp; omega)).trans HTH.out.1, (hb1.block _ (by simp)).trans HTH.out.2.1, (hb1.block _ (by simp)).trans HTH.out.2.2, rv_zero _, he1, hk1.lt, by (repeat' (first | (with_reducible assumption) | (with_reducible exact Below.refl _ _) | (with_reducible refine below_drewN ?_ _) | (with_reducible refine Below.drew ?_) | (with_reducible refine Below.alloc ?_ ?_ _) | (with_reducible refine Below.setCell ?_ ?_ _) | (with_reducible refine Below.trans ?_ (Below.mono (by assumption) ?_)) | (with_reducible exact Nat.le_refl _) | (with_reducible assumption) | omega | (simp; omega) | (simp; done))), by omega⟩
  have HTQ := Lib.hid htq
  clear htq hk1 he1 hb1 hg
  go_wp2_with fail
  go_loopw [11] (fun vi wr => ∃ (i : Nat) (cs : Array Value), i ≤ m ∧ vi = .int .i64 i ∧ TQ w wr m g (wh (isRt (m : Int) d) i) cs) (fun vi _ => m - (intOf vi).toNat)
  case atStart => exact ⟨0, _, Nat.zero_le _, rfl, by rw [HW0.out]; exact HTQ.out⟩
  case round =>
    obtain ⟨i, cs, him, rfl, ht⟩ := hrel
    obtain ⟨x0, x1, x2, xf, xl⟩ := cells3' ht.hf
    have hzb := ht.bel.size
    have hgl := ht.gl
    have hgt := ht.lt
    by_cases hlt : i < m
    · obtain ⟨c0, c1, c2, c3, c4, c5, c6⟩ := ht.he i hlt
      have HT := Lib.hid ht
      have HP' := Lib.hid (fun w => HP.out i w hlt)
      have HEQ' := Lib.hid (fun w => HEQ.out i w hlt)
      have hrt := HRT.out i
      have hfew := HFEW.out (i + 1) (by omega)
      have hy := HY.out i
      have hn := HN.out i
      clear ht
      by_cases hpw : pw (m : Int) (i : Int) d = 1
      · have hd' : decide (pw (m : Int) (i : Int) d = 1) = true := decide_eq_true hpw
        have hE := hy (by rw [hrt, hd'])
        rw [hE, List.length_append, List.length_singleton] at hfew
        have HEE := Lib.hid hE
        clear hrt hy hn hE hpw
        obtain ⟨L, hL⟩ : ∃ x, wh (isRt (m : Int) d) i = x := ⟨_, rfl⟩
        rw [hL] at HEE HT hfew
        have hlen : L.length < 15 := by omega
        generalize pw (m : Int) (i : Int) d = y at *
        go_wp2_with fail
        go_region_with (first | (go_at_call 34; refine (HP'.out _).mono ?_; rintro e w5 ⟨rfl, hb5⟩; obtain ⟨hc5, hf5⟩ := bcell hb5; (try simp only [World.size_drew] at hc5 hf5); have hz5 := hb5.size; (try simp at hz5); have HB5 := Lib.hid hb5; clear hb5; have l5 : w.heap.size < w5.heap.size := (by omega)) | (go_at_call 35; refine (HO.out _).mono ?_; rintro e w6 ⟨rfl, hb6⟩; obtain ⟨hc6, hf6⟩ := bcell hb6; (try simp only [World.size_drew] at hc6 hf6); have hz6 := hb6.size; (try simp at hz6); have HB6 := Lib.hid hb6; clear hb6; have l6 : w.heap.size < w6.heap.size := (by omega)) | (simp only [HEQ'.out, Result.andThen_ok, hd']))
        all_goals
          have hb5 := HB5.out
          have hb6 := HB6.out
          have hbw : Below wr.heap.size wr w6 := by (repeat' (first | (with_reducible assumption) | (with_reducible exact Below.refl _ _) | (with_reducible refine below_drewN ?_ _) | (with_reducible refine Below.drew ?_) | (with_reducible refine Below.alloc ?_ ?_ _) | (with_reducible refine Below.setCell ?_ ?_ _) | (with_reducible refine Below.trans ?_ (Below.mono (by assumption) ?_)) | (with_reducible exact Nat.le_refl _) | (with_reducible assumption) | omega | (simp; omega) | (simp; done)))
          have ht6 := HT.out.below hbw (Nat.le_refl _)
          have he6 : w6.heap[wr.heap.size]? = some (eblk (m : Int) (i : Int)) := ((hb6.block _ (by omega)).trans (hb5.block _ (by simp))).trans (heap_alloc_new _ _)
          obtain ⟨p0, p1, p2, p3, p4, p5, p6, pf, pl'⟩ := seven he6
          have hcnt : w6.cell? ⟨w.heap.size + 1 + 1, 0, none⟩ = some (.int .i64 (L.length : Int)) := by rw [cell_of_row w6 _ _ _ _ _ ht6.hF]; exact ht6.rv.cnt
          have hfz : ∀ o, w6.frozen? ⟨w.heap.size + 1 + 1, o, none⟩ = false := fun o => frozen_of_row w6 _ o _ _ ht6.hF
          have hsz := ht6.rv.size
          obtain ⟨v0, e0⟩ := row_has ht6.hF (1 + L.length * 7) (by omega)
          obtain ⟨v1, e1⟩ := row_has ht6.hF (1 + L.length * 7 + 1) (by omega)
          obtain ⟨v2, e2⟩ := row_has ht6.hF (1 + L.length * 7 + 2) (by omega)
          obtain ⟨v3, e3⟩ := row_has ht6.hF (1 + L.length * 7 + 3) (by omega)
          obtain ⟨v4, e4⟩ := row_has ht6.hF (1 + L.length * 7 + 4) (by omega)
          obtain ⟨v5, e5⟩ := row_has ht6.hF (1 + L.length * 7 + 5) (by omega)
          obtain ⟨v6, e6⟩ := row_has ht6.hF (1 + L.length * 7 + 6) (by omega)
          replace e0 : w6.cell? ⟨w.heap.size + 1 + 1, 1 + L.length * 7, none⟩ = some v0 := e0
          replace e1 : w6.cell? ⟨w.heap.size + 1 + 1, 1 + L.length * 7 + 1, none⟩ = some v1 := e1
          replace e2 : w6.cell? ⟨w.heap.size + 1 + 1, 1 + L.length * 7 + 2, none⟩ = some v2 := e2
          replace e3 : w6.cell? ⟨w.heap.size + 1 + 1, 1 + L.length * 7 + 3, none⟩ = some v3 := e3
          replace e4 : w6.cell? ⟨w.heap.size + 1 + 1, 1 + L.length * 7 + 4, none⟩ = some v4 := e4
          replace e5 : w6.cell? ⟨w.heap.size + 1 + 1, 1 + L.length * 7 + 5, none⟩ = some v5 := e5
          replace e6 : w6.cell? ⟨w.heap.size + 1 + 1, 1 + L.length * 7 + 6, none⟩ = some v6 := e6
          have HT6 := Lib.hid ht6
          clear hb5 hb6 ht6 he6 hbw HB5 HB6
          go_wp2_with fail
          clear HE HO HP HEQ HRT HFEW HY HN HTH HTQ HP' HEQ'
          go_roundw
          case rel => exact ⟨i + 1, _, by omega, by go_num, by rw [HEE.out]; exact HT6.out.add hlen (i : Int)⟩
          case measure => simp [intOf]; omega
      · have hd' : decide (pw (m : Int) (i : Int) d = 1) = false := decide_eq_false hpw
        have hE := hn (by rw [hrt, hd'])
        have HEE := Lib.hid hE
        clear hrt hy hn hE hpw hfew
        obtain ⟨L, hL⟩ : ∃ x, wh (isRt (m : Int) d) i = x := ⟨_, rfl⟩
        rw [hL] at HEE HT
        generalize pw (m : Int) (i : Int) d = y at *
        go_wp2_with fail
        go_region_with (first | (go_at_call 34; refine (HP'.out _).mono ?_; rintro e w5 ⟨rfl, hb5⟩; obtain ⟨hc5, hf5⟩ := bcell hb5; (try simp only [World.size_drew] at hc5 hf5); have hz5 := hb5.size; (try simp at hz5); have HB5 := Lib.hid hb5; clear hb5; have l5 : w.heap.size < w5.heap.size := (by omega)) | (go_at_call 35; refine (HO.out _).mono ?_; rintro e w6 ⟨rfl, hb6⟩; obtain ⟨hc6, hf6⟩ := bcell hb6; (try simp only [World.size_drew] at hc6 hf6); have hz6 := hb6.size; (try simp at hz6); have HB6 := Lib.hid hb6; clear hb6; have l6 : w.heap.size < w6.heap.size := (by omega)) | (simp only [HEQ'.out, Result.andThen_ok, hd']))
        all_goals
          have hb5 := HB5.out
          have hb6 := HB6.out
          have hbw : Below wr.heap.size wr w6 := by (repeat' (first | (with_reducible assumption) | (with_reducible exact Below.refl _ _) | (with_reducible refine below_drewN ?_ _) | (with_reducible refine Below.drew ?_) | (with_reducible refine Below.alloc ?_ ?_ _) | (with_reducible refine Below.setCell ?_ ?_ _) | (with_reducible refine Below.trans ?_ (Below.mono (by assumption) ?_)) | (with_reducible exact Nat.le_refl _) | (with_reducible assumption) | omega | (simp; omega) | (simp; done)))
          have ht6 := HT.out.below hbw (Nat.le_refl _)
          have HT6 := Lib.hid ht6
          clear hb5 hb6 ht6 hbw HB5 HB6
          go_wp2_with fail
          clear HE HO HP HEQ HRT HFEW HY HN HTH HTQ HP' HEQ'
          go_roundw
          case rel => exact ⟨i + 1, _, by omega, by go_num, by rw [HEE.out]; exact HT6.out⟩
          case measure => simp [intOf]; omega
    · obtain rfl : m = i := by omega
      have HT := Lib.hid ht
      have hF : wr.heap[w.heap.size + 1 + 1]? = some (.cells cs 46 (0, 0)) := ht.hF
      have hz := ht.hz
      have hsz := ht.rv.size
      have hone : cs.all (·.oneCell') = true := ht.rv.all
      have hu := Try.underlying46
      have hi : (Try.prog.info? 46).map (·.size) = some cs.size := by rw [hsz]; kernel_rfl
      have hz2 : Try.zeroCells46.size = cs.size := by rw [hsz]; kernel_rfl
      clear ht HE HO HP HEQ HRT HFEW HY HN HTH HTQ
      go_wp2_with (first | refine wpList_load_row rfl 46 _ rfl (w.heap.size + 1 + 1) rfl 46 cs (0, 0) _ hF hu rfl hi ?_ | refine wpList_store_row rfl 46 _ _ rfl (w.heap.size + 1) cs rfl rfl 46 _ hz hi hz2 hone ?_ | fail)
      refine bodyPost_ret (results_cell_row rfl _ _ (w.heap.size + 1) 46 cs (0, 0) _ rfl (setRow_heap wr (w.heap.size + 1) _ cs _ _ hz) hu rfl hi) rfl ?_
      exact ⟨cs, rfl, HT.out.rv, below_setRow HT.out.bel (by omega) cs⟩
end Go.Proofs.Ytkjpkdecoeoghaa
