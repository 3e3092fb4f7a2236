/- The polynomial with a table has that table; differences as polynomials: impl.poly.difference, by a contract. -/
import Derived.Test.YtgndlpdcebmgmaaSC
import Derived.Test.YtgndlpdcebmgmaaLJ
import Derived.Test.YtgndlpdcebmgmaaNE
import Derived.Deep.RegionHeld3
namespace Go.Proofs.Ytgndlpdcebmgmaa
open Go.RowKit
theorem cf_sum2 {q a x : Int} (h : isSz q = true) (ha : El q a) (hx : El q x) : lsum q (fun j => mulF q (cf q a j) (pw q x j)) q.toNat = if x = a then 1 else 0 :=
  of_decide_eq_true (of_chk2 (f := fun q a x => decide (lsum q (fun j => mulF q (cf q a j) (pw q x j)) q.toNat = if x = a then 1 else 0)) (by decide +kernel) q a x h ha.1 ha.2 hx.1 hx.2)
theorem lsum_congr' {q : Int} {u v : Nat → Int} {n : Nat} (h : ∀ i, i < n → u i = v i) : lsum q u n = lsum q v n := by
  induction n with
  | zero => rfl
  | succ n ih => show addF q (lsum q u n) (u n) = addF q (lsum q v n) (v n); rw [ih fun i hi => h i (by omega), h n (by omega)]
/-- The polynomial of a table has the table's values. -/
theorem ipl_tab {m : Nat} {t : Nat → Int} (h : isSz (m : Int) = true) (ht : ∀ i, El m (t i)) (x : Nat) (hx : x < m) : val m (ipl m t m) m (x : Int) = t x := by
  have hX := El.nat hx
  have e1 : val m (ipl m t m) m (x : Int) = lsum m (fun j => lsum m (fun a => mulF m (t a) (mulF m (cf m (a : Int) j) (pw m (x : Int) j))) m) m := by
    refine lsum_congr' fun j hj => ?_
    show mulF m (lsum m (fun a => mulF m (t a) (cf m (a : Int) j)) m) (pw m (x : Int) j) = _
    rw [← lsum_mulr h (El.pw h hX j) fun a ha => (ht a).mul h (cf_el h (El.nat ha) j)]
    refine lsum_congr' fun a ha => ?_
    exact mul_assoc' h (ht a) (cf_el h (El.nat ha) j) (El.pw h hX j)
  rw [e1, lsum_swap h fun j a _ ha => (ht a).mul h ((cf_el h (El.nat ha) j).mul h (El.pw h hX j))]
  have e2 : ∀ a, a < m → lsum m (fun j => mulF m (t a) (mulF m (cf m (a : Int) j) (pw m (x : Int) j))) m = if x = a then t a else 0 := fun a ha => by
    rw [lsum_mul h (ht a) fun j _ => (cf_el h (El.nat ha) j).mul h (El.pw h hX j)]
    have := cf_sum2 h (El.nat ha) hX
    rw [Int.toNat_natCast] at this
    rw [this]
    by_cases e : x = a
    · subst e
      rw [if_pos rfl, if_pos rfl, (mul_one' h (ht x)).2]
    · rw [if_neg (by omega), if_neg e, (mul_zero' h (ht a)).2]
  rw [lsum_congr' e2, lsum_pick h (j := x) (by rw [if_pos rfl]; exact ht x) hx fun a _ hne => if_neg fun e => hne e.symm, if_pos rfl]
theorem tb_with {m : Nat} {t : Nat → Int} (h : isSz (m : Int) = true) (ht : ∀ i, El (m : Int) (t i)) : Tb m (redR m (tms m t) m) (redn m (tms m t) m) t :=
  (tb_red h (tms_el h ht) m).like fun a ha => by
    rw [← ipl_tab h ht a ha]
    exact lsum_congr' fun j _ => by rw [tms_same h ht]
theorem ftl_ptl {m : Nat} {t : Nat → Int} (h : isSz (m : Int) = true) (ht : ∀ i, i < m → El (m : Int) (t i)) : ftl m t = ptl m t := by
  have hc := clm_el h ht
  rw [← ((tb_with h hc).like fun a ha => show clm m t a = t a by simp [clm, ha]).same h, from_same' h hc]
  rfl
/-- impl.field.polyWithTable, told by the table. -/
theorem polyWithTableT (m : Nat) (v : Value) (t : Nat → Int) (w : World) (h : isSz (m : Int) = true) (hv : Se w v (m : Int) t m) (ht : ∀ i, i < m → El (m : Int) (t i)) :
    Calls Try.prog 69 #[fdE (m : Int), v] w fun e w' => ∃ v', e = .returned (polyE (m : Int) v') ∧ IsP w' v' m t ∧ Below w.heap.size w w' := by
  have hel := clm_el h ht
  refine (polyWithTableE m v (clm m t) w h (hv.like fun i hi => by simp [clm, hi]) hel).mono ?_
  rintro e w' ⟨g, cap, rfl, hg, he, hb⟩
  exact ⟨_, rfl, ⟨g, _, cap, _, rfl, hg, he, (tb_with h hel).like fun a ha => by simp [clm, ha]⟩, hb⟩
theorem IsP.tab {w : World} {v : Value} {m : Nat} {t : Nat → Int} (h : isSz (m : Int) = true) (hp : IsP w v m t) : ∃ g k cap f, v = .slice (some ⟨g, 0, none⟩) k cap ∧ g < w.heap.size ∧ Els w g (m : Int) f k ∧ (∀ i, El (m : Int) (f i)) ∧ k ≤ m ∧ ∀ a, a < m → tabF (m : Int) f k a = t a := by
  obtain ⟨g, k, cap, f, rfl, hg, he, ht⟩ := hp
  refine ⟨g, k, cap, f, rfl, hg, he, ht.el, ht.le, fun a ha => ?_⟩
  show hor m (a : Int) f k k = t a
  rw [hor_val h (El.nat ha) ht.el k, ht.short h a ha]
theorem IsP.over3 {w w' : World} {P : Nat} {v : Value} {m : Nat} {t : Nat → Int} (h : IsP w v m t) (hP : w.heap[P]? = some pzblk) (hw : ∀ k, k ≠ P → w'.heap[k]? = w.heap[k]?) (hs : w'.heap.size = w.heap.size) : IsP w' v m t := by
  obtain ⟨g, k, cap, f, rfl, hg, he, ht⟩ := h
  refine ⟨g, k, cap, f, rfl, by omega, ?_, ht⟩
  by_cases h0 : k = 0
  · subst h0
    exact fun j hj => by omega
  · refine he.same (hw g fun e => ?_)
    subst e
    have h1 := (he 0 (by omega)).2.2.2.1
    rw [(cells4 hP).2.2.2.1] at h1
    simp at h1
theorem Els.like' {w : World} {g n : Nat} {q : Int} {f f' : Nat → Int} (he : Els w g q f n) (h : ∀ i, i < n → f i = f' i) : Els w g q f' n := fun i hi => by
  rw [← h i hi]; exact he i hi
set_option maxRecDepth 100000 in
set_option maxHeartbeats 4000000 in
/-- impl.poly.difference. -/
theorem differenceT (m a : Nat) (v : Value) (t : Nat → Int) (w : World) (h : isSz (m : Int) = true) (hv : IsP w v m t) (ha : a < m) :
    Calls Try.prog 42 #[polyE (m : Int) v, elE (m : Int) (a : Int)] w fun e w' => ∃ v', e = .returned (polyE (m : Int) v') ∧ IsP w' v' m (dft m t a) ∧ Below w.heap.size w w' := by
  have hq := isSz_le (m : Int) h
  obtain ⟨g, k, cap, f, rfl, hg, he, hf, hk, htab⟩ := hv.tab h
  have htel : ∀ i, i < m → El (m : Int) (t i) := fun i hi => by rw [← htab i hi]; exact hor_el h (El.nat hi) (fun j _ => hf j) k (Nat.le_refl _)
  have HTB : Hid (∀ w', Below w.heap.size w w' → Calls Try.prog 46 #[polyE (m : Int) (.slice (some ⟨g, 0, none⟩) k cap)] w' fun e w'' => ∃ g', e = .returned (.slice (some ⟨g', 0, none⟩) m m) ∧ w'.heap.size ≤ g' ∧ Blk w'' g' m ∧ Els w'' g' (m : Int) t m ∧ Below w'.heap.size w' w'') := Lib.hid fun w' hb =>
    (tableM m g k cap f w' h (by have := hb.size; omega) (he.below hb hg) (fun i _ => hf i) (by omega)).mono fun e w'' ⟨g', h1, h2, h3, h4, h5⟩ => ⟨g', h1, h2, h3, h4.like' htab, h5⟩
  have HD := Lib.hid (fun g' w' (hg' : g' < w'.heap.size) (he' : Els w' g' (m : Int) t m) => differenceOfE m a g' m t w' h ha hg' he' htel)
  have HW := Lib.hid (fun v' w' (hs : Se w' v' (m : Int) (dft m t a) m) => polyWithTableT m v' (dft m t a) w' h hs (dft_el h htel a ha))
  clear h hv he hf htab htel
  generalize dft m t a = D at *
  go_enter Try.func42, Try.ntmps42
  go_wp2_with fail
  have HT3 := Lib.hid (three w (pblk (m : Int) (.slice (some ⟨g, 0, none⟩) k cap)) (eblk (m : Int) (a : Int)) pzblk).2.2
  have HKEEP : Hid (∀ w', Below (w.heap.size + 2) ((w.alloc (pblk (m : Int) (.slice (some ⟨g, 0, none⟩) k cap))).alloc (eblk (m : Int) (a : Int))) w' → w'.cell? ⟨w.heap.size, 0, none⟩ = some (.int .i64 m) ∧ w'.cell? ⟨w.heap.size, 1, none⟩ = some (.int .i64 (pr m)) ∧ w'.cell? ⟨w.heap.size, 2, none⟩ = some (.int .i64 (pl m)) ∧ w'.cell? ⟨w.heap.size, 3, none⟩ = some (.slice (some ⟨g, 0, none⟩) k cap) ∧ w'.cell? ⟨w.heap.size + 1, 0, none⟩ = some (.int .i64 m) ∧ w'.cell? ⟨w.heap.size + 1, 1, none⟩ = some (.int .i64 (pr m)) ∧ w'.cell? ⟨w.heap.size + 1, 2, none⟩ = some (.int .i64 (pl m)) ∧ w'.cell? ⟨w.heap.size + 1, 3, none⟩ = some (.int .i64 (dg m a 0)) ∧ w'.cell? ⟨w.heap.size + 1, 4, none⟩ = some (.int .i64 (dg m a 1)) ∧ w'.cell? ⟨w.heap.size + 1, 5, none⟩ = some (.int .i64 (dg m a 2)) ∧ w'.cell? ⟨w.heap.size + 1, 6, none⟩ = some (.int .i64 (dg m a 3))) := Lib.hid fun w' hb => by
    obtain ⟨t0, t1⟩ := two w (pblk (m : Int) (.slice (some ⟨g, 0, none⟩) k cap)) (eblk (m : Int) (a : Int))
    obtain ⟨x0, x1, x2, x3, _⟩ := cells4 ((hb.block _ (by omega)).trans t0)
    obtain ⟨y0, y1, y2, y3, y4, y5, y6, _⟩ := seven ((hb.block _ (by omega)).trans t1)
    exact ⟨x0, x1, x2, x3, y0, y1, y2, y3, y4, y5, y6⟩
  go_region_held3 (fun w' => w'.cell? ⟨w.heap.size, 0, none⟩ = some (.int .i64 m) ∧ w'.cell? ⟨w.heap.size, 1, none⟩ = some (.int .i64 (pr m)) ∧ w'.cell? ⟨w.heap.size, 2, none⟩ = some (.int .i64 (pl m)) ∧ w'.cell? ⟨w.heap.size, 3, none⟩ = some (.slice (some ⟨g, 0, none⟩) k cap) ∧ w'.cell? ⟨w.heap.size + 1, 0, none⟩ = some (.int .i64 m) ∧ w'.cell? ⟨w.heap.size + 1, 1, none⟩ = some (.int .i64 (pr m)) ∧ w'.cell? ⟨w.heap.size + 1, 2, none⟩ = some (.int .i64 (pl m)) ∧ w'.cell? ⟨w.heap.size + 1, 3, none⟩ = some (.int .i64 (dg m a 0)) ∧ w'.cell? ⟨w.heap.size + 1, 4, none⟩ = some (.int .i64 (dg m a 1)) ∧ w'.cell? ⟨w.heap.size + 1, 5, none⟩ = some (.int .i64 (dg m a 2)) ∧ w'.cell? ⟨w.heap.size + 1, 6, none⟩ = some (.int .i64 (dg m a 3)))
    (exact HKEEP.out _ (by (try have hb3 := HB3.out); (try have hb4 := HB4.out); (try have hb5 := HB5.out); (repeat' (first | (with_reducible assumption) | (with_reducible exact Below.refl _ _) | (with_reducible refine below_drewN ?_ _) | (with_reducible refine Below.drew ?_) | (with_reducible refine Below.alloc ?_ ?_ _) | (with_reducible refine Below.setCell ?_ ?_ _) | (with_reducible refine Below.trans ?_ (Below.mono (by assumption) ?_)) | (with_reducible exact Nat.le_refl _) | (with_reducible assumption) | omega | (simp; omega) | (simp; done)))))
    (first
    | (go_at_call 46; refine (HTB.out _ (by (repeat' (first | (with_reducible assumption) | (with_reducible exact Below.refl _ _) | (with_reducible refine below_drewN ?_ _) | (with_reducible refine Below.drew ?_) | (with_reducible refine Below.alloc ?_ ?_ _) | (with_reducible refine Below.setCell ?_ ?_ _) | (with_reducible refine Below.trans ?_ (Below.mono (by assumption) ?_)) | (with_reducible exact Nat.le_refl _) | (with_reducible assumption) | omega | (simp; omega) | (simp; done))))).mono ?_; rintro e w3 ⟨g3, rfl, hg3, hk3, he3, hb3⟩; have hgl3 := hk3.lt; have HE3 := Lib.hid he3; clear he3 hk3; obtain ⟨hc3, hf3⟩ := bcell hb3; (try simp only [World.size_drew] at hc3 hf3); have hz3 := hb3.size; (try simp at hz3); have HB3 := Lib.hid hb3; clear hb3; have l3 : w.heap.size + 2 < w3.heap.size := (by omega))
    | (go_at_call 70; refine (HD.out g3 _ (by first | exact hgl3 | (simp; omega)) HE3.out).mono ?_; rintro e w4 ⟨g4, rfl, hg4, hk4, he4, hb4⟩; have hgl4 := hk4.lt; have HE4 := Lib.hid he4; clear he4 hk4; obtain ⟨hc4, hf4⟩ := bcell hb4; (try simp only [World.size_drew] at hc4 hf4); have hz4 := hb4.size; (try simp at hz4); have HB4 := Lib.hid hb4; clear hb4; have l4 : w.heap.size + 2 < w4.heap.size := (by omega))
    | (go_at_call 69; refine (HW.out _ _ ⟨g4, _, rfl, by first | exact hgl4 | (simp; omega), HE4.out⟩).mono ?_; rintro e w5 ⟨v5, rfl, hp5, hb5⟩; obtain ⟨a5, k5, c5, rfl⟩ := hp5.slice; have HP5 := Lib.hid hp5; clear hp5; obtain ⟨hc5, hf5⟩ := bcell hb5; (try simp only [World.size_drew] at hc5 hf5); have hz5 := hb5.size; (try simp at hz5); have HB5 := Lib.hid hb5; clear hb5; have l5 : w.heap.size + 2 < w5.heap.size := (by omega)))
  all_goals
    go_wp2_with fail
    have hb3 := HB3.out
    have hb4 := HB4.out
    have hb5 := HB5.out
    have hr : w5.heap[w.heap.size + 2]? = some pzblk := (Below.block (B := w.heap.size + 3) (w := ((w.alloc (pblk (m : Int) (.slice (some ⟨g, 0, none⟩) k cap))).alloc (eblk (m : Int) (a : Int))).alloc pzblk) (by (repeat' (first | (with_reducible assumption) | (with_reducible exact Below.refl _ _) | (with_reducible refine below_drewN ?_ _) | (with_reducible refine Below.drew ?_) | (with_reducible refine Below.alloc ?_ ?_ _) | (with_reducible refine Below.setCell ?_ ?_ _) | (with_reducible refine Below.trans ?_ (Below.mono (by assumption) ?_)) | (with_reducible exact Nat.le_refl _) | (with_reducible assumption) | omega | (simp; omega) | (simp; done)))) (w.heap.size + 2) (by omega)).trans HT3.out
    obtain ⟨r0, r1, r2, r3, rf, rl0⟩ := cells4 hr
    refine bodyPost_ret (v := polyE (m : Int) (.slice a5 k5 c5)) (by simp [results, Try.results42, go_sem, r0, r1, r2, r3]) rfl ⟨_, rfl, ?_, ?_⟩
    · exact HP5.out.over3 hr (fun k hk => by (repeat' (first | (with_reducible rfl) | (with_reducible refine (heap_setCell_other _ _ _ _ ?_).trans ?_) | (with_reducible refine (drew_heap' _ _).trans ?_) | exact hk))) (by simp)
    · (repeat' (first | (with_reducible assumption) | (with_reducible exact Below.refl _ _) | (with_reducible refine below_drewN ?_ _) | (with_reducible refine Below.drew ?_) | (with_reducible refine Below.alloc ?_ ?_ _) | (with_reducible refine Below.setCell ?_ ?_ _) | (with_reducible refine Below.trans ?_ (Below.mono (by assumption) ?_)) | (with_reducible exact Nat.le_refl _) | (with_reducible assumption) | omega | (simp; omega) | (simp; done)))
end Go.Proofs.Ytgndlpdcebmgmaa
