/- Counts of differences, all of them behind one another, their spread: by contracts. -/
import Derived.Test.YtgndlpdcebmgmaaSC
import Derived.Test.YtgndlpdcebmgmaaSD
import Derived.Test.YtgndlpdcebmgmaaSE
import Derived.Test.YtgndlpdcebmgmaaSF
import Derived.Test.YtgndlpdcebmgmaaRM
import Derived.Deep.RegionHeld3
namespace Go.Proofs.Ytgndlpdcebmgmaa
open Go.RowKit
set_option maxRecDepth 100000 in
set_option maxHeartbeats 4000000 in
/-- impl.element.countsOfDifference. -/
theorem countsOfDifferenceE (m a g cap : Nat) (t : Nat → Int) (w : World) (h : isSz (m : Int) = true) (ha : a < m) (hg : g < w.heap.size) (he : Els w g (m : Int) t m) (ht : ∀ i, i < m → El (m : Int) (t i)) :
    Calls Try.prog 45 #[elE (m : Int) (a : Int), .slice (some ⟨g, 0, none⟩) m cap] w fun e w' => ∃ g', e = .returned (.slice (some ⟨g', 0, none⟩) m m) ∧ w.heap.size ≤ g' ∧ g' < w'.heap.size ∧ Row w' w.heap.size (.slice (some ⟨g', 0, none⟩) m m) (fl (oc (dft m t a) m) m) ∧ Below w.heap.size w w' := by
  have hq := isSz_le (m : Int) h
  have HD := Lib.hid (fun w' (hb : Below w.heap.size w w') => differenceOfE m a g cap t w' h ha (by have := hb.size; omega) (he.below hb hg) ht)
  have HC := Lib.hid (fun g' w' (hg' : g' < w'.heap.size) (he' : Els w' g' (m : Int) (dft m t a) m) => countsEl m g' m m (dft m t a) w' h hg' he' (fun i hi => dft_el h ht a ha i hi) (by omega))
  have HKEEP : Hid (∀ w', Below (w.heap.size + 1) (w.alloc (eblk (m : Int) (a : Int))) w' → w'.cell? ⟨w.heap.size, 0, none⟩ = some (.int .i64 m) ∧ w'.cell? ⟨w.heap.size, 1, none⟩ = some (.int .i64 (pr m)) ∧ w'.cell? ⟨w.heap.size, 2, none⟩ = some (.int .i64 (pl m)) ∧ w'.cell? ⟨w.heap.size, 3, none⟩ = some (.int .i64 (dg m a 0)) ∧ w'.cell? ⟨w.heap.size, 4, none⟩ = some (.int .i64 (dg m a 1)) ∧ w'.cell? ⟨w.heap.size, 5, none⟩ = some (.int .i64 (dg m a 2)) ∧ w'.cell? ⟨w.heap.size, 6, none⟩ = some (.int .i64 (dg m a 3))) := Lib.hid fun w' hb => by
    obtain ⟨y0, y1, y2, y3, y4, y5, y6, _⟩ := seven ((hb.block _ (by omega)).trans (heap_alloc_new w (eblk (m : Int) (a : Int))))
    exact ⟨y0, y1, y2, y3, y4, y5, y6⟩
  clear h he ht
  generalize oc (dft m t a) m = C at *
  generalize dft m t a = D at *
  go_enter Try.func45, Try.ntmps45
  go_wp2_with fail
  go_region_held3 (fun w' => w'.cell? ⟨w.heap.size, 0, none⟩ = some (.int .i64 m) ∧ w'.cell? ⟨w.heap.size, 1, none⟩ = some (.int .i64 (pr m)) ∧ w'.cell? ⟨w.heap.size, 2, none⟩ = some (.int .i64 (pl m)) ∧ w'.cell? ⟨w.heap.size, 3, none⟩ = some (.int .i64 (dg m a 0)) ∧ w'.cell? ⟨w.heap.size, 4, none⟩ = some (.int .i64 (dg m a 1)) ∧ w'.cell? ⟨w.heap.size, 5, none⟩ = some (.int .i64 (dg m a 2)) ∧ w'.cell? ⟨w.heap.size, 6, none⟩ = some (.int .i64 (dg m a 3)))
    (exact HKEEP.out _ (by (try have hb3 := HB3.out); (try have hb4 := HB4.out); (repeat' (first | (with_reducible assumption) | (with_reducible exact Below.refl _ _) | (with_reducible refine below_drewN ?_ _) | (with_reducible refine Below.drew ?_) | (with_reducible refine Below.alloc ?_ ?_ _) | (with_reducible refine Below.setCell ?_ ?_ _) | (with_reducible refine Below.trans ?_ (Below.mono (by assumption) ?_)) | (with_reducible exact Nat.le_refl _) | (with_reducible assumption) | omega | (simp; omega) | (simp; done)))))
    (first
    | (go_at_call 70; refine (HD.out _ (by (repeat' (first | (with_reducible assumption) | (with_reducible exact Below.refl _ _) | (with_reducible refine below_drewN ?_ _) | (with_reducible refine Below.drew ?_) | (with_reducible refine Below.alloc ?_ ?_ _) | (with_reducible refine Below.setCell ?_ ?_ _) | (with_reducible refine Below.trans ?_ (Below.mono (by assumption) ?_)) | (with_reducible exact Nat.le_refl _) | (with_reducible assumption) | omega | (simp; omega) | (simp; done))))).mono ?_; rintro e w3 ⟨g3, rfl, hg3, hk3, he3, hb3⟩; have hgl3 := hk3.lt; have HE3 := Lib.hid he3; clear he3 hk3; obtain ⟨hc3, hf3⟩ := bcell hb3; (try simp only [World.size_drew] at hc3 hf3); have hz3 := hb3.size; (try simp at hz3); have HB3 := Lib.hid hb3; clear hb3)
    | (go_at_call 73; refine (HC.out g3 _ (by first | exact hgl3 | (simp; omega)) HE3.out).mono ?_; rintro e w4 ⟨g4, rfl, hg4, hgl4, hr4, hb4⟩; have HR4 := Lib.hid hr4; clear hr4; obtain ⟨hc4, hf4⟩ := bcell hb4; (try simp only [World.size_drew] at hc4 hf4); have hz4 := hb4.size; (try simp at hz4); have HB4 := Lib.hid hb4; clear hb4))
  all_goals
    go_wp2
    go_ret
    have hb3 := HB3.out
    have hb4 := HB4.out
    exact ⟨_, rfl, by first | omega | (simp at *; omega), by first | omega | (simp; omega), HR4.out.mono (by first | omega | (simp; done) | (simp; omega)), by (repeat' (first | (with_reducible assumption) | (with_reducible exact Below.refl _ _) | (with_reducible refine below_drewN ?_ _) | (with_reducible refine Below.drew ?_) | (with_reducible refine Below.alloc ?_ ?_ _) | (with_reducible refine Below.setCell ?_ ?_ _) | (with_reducible refine Below.trans ?_ (Below.mono (by assumption) ?_)) | (with_reducible exact Nat.le_refl _) | (with_reducible assumption) | omega | (simp; omega) | (simp; done)))⟩
set_option maxRecDepth 100000 in
set_option maxHeartbeats 4000000 in
/-- The closure of impl.poly.spreadOfCounts. -/
theorem cntClo (m a g cap K : Nat) (t : Nat → Int) (w : World) (h : isSz (m : Int) = true) (ha : a < m) (hK : w.cell? ⟨K, 0, none⟩ = some (.slice (some ⟨g, 0, none⟩) m cap)) (hg : g < w.heap.size) (he : Els w g (m : Int) t m) (ht : ∀ i, i < m → El (m : Int) (t i)) :
    Calls Try.prog 83 #[elE (m : Int) (a : Int), .pointer (some ⟨K, 0, none⟩)] w fun e w' => ∃ u, e = .returned u ∧ Row w' w.heap.size u (fl (oc (dft m t a) m) m) ∧ Below w.heap.size w w' := by
  have hq := isSz_le (m : Int) h
  have lK := World.block_lt_of_cell? w _ hK
  simp only at lK
  have HC := Lib.hid (fun w' (hb : Below w.heap.size w w') => countsOfDifferenceE m a g cap t w' h ha (by have := hb.size; omega) (he.below hb hg) ht)
  clear h he ht
  generalize oc (dft m t a) m = C at *
  go_enter Try.func83, Try.ntmps83
  go_wp2_with fail
  refine (HC.out _ (by (repeat' (first | (with_reducible assumption) | (with_reducible exact Below.refl _ _) | (with_reducible refine below_drewN ?_ _) | (with_reducible refine Below.drew ?_) | (with_reducible refine Below.alloc ?_ ?_ _) | (with_reducible refine Below.setCell ?_ ?_ _) | (with_reducible refine Below.trans ?_ (Below.mono (by assumption) ?_)) | (with_reducible exact Nat.le_refl _) | (with_reducible assumption) | omega | (simp; omega) | (simp; done))))).mono ?_
  rintro e w3 ⟨g3, rfl, hg3, hgl3, hr3, hb3⟩
  have HR3 := Lib.hid hr3
  have HB3 : Hid (Below w.heap.size w w3) := Lib.hid (by (repeat' (first | (with_reducible assumption) | (with_reducible exact Below.refl _ _) | (with_reducible refine below_drewN ?_ _) | (with_reducible refine Below.drew ?_) | (with_reducible refine Below.alloc ?_ ?_ _) | (with_reducible refine Below.setCell ?_ ?_ _) | (with_reducible refine Below.trans ?_ (Below.mono (by assumption) ?_)) | (with_reducible exact Nat.le_refl _) | (with_reducible assumption) | omega | (simp; omega) | (simp; done))))
  clear hr3 hb3
  go_wp2
  go_ret
  exact ⟨_, rfl, HR3.out.mono (by first | omega | (simp; done) | (simp; omega)), HB3.out⟩
set_option maxHeartbeats 1000000 in
/-- The closure of impl.mapped over elements from the second on, at that closure. -/
theorem cloCN (m K g n cap i A0 A1 x : Nat) (l : List Int) (w : World) (hin : i < n)
    (HE0 : ∀ w', Below w.heap.size w w' → Calls Try.prog 83 #[elE (m : Int) (x : Int), .pointer (some ⟨K, 0, none⟩)] w' fun e w'' => ∃ u, e = .returned u ∧ Row w'' w'.heap.size u l ∧ Below w'.heap.size w' w'')
    (c0 : w.cell? ⟨A0, 0, none⟩ = some (.func (.func 83) #[] #[.pointer (some ⟨K, 0, none⟩)])) (c1 : w.cell? ⟨A1, 0, none⟩ = some (.slice (some ⟨g, 7, none⟩) n cap)) (c2 : w.cell? ⟨g, 7 + i * 7, none⟩ = some (.int .i64 m) ∧ w.cell? ⟨g, 7 + i * 7 + 1, none⟩ = some (.int .i64 (pr m)) ∧ w.cell? ⟨g, 7 + i * 7 + 2, none⟩ = some (.int .i64 (pl m)) ∧ w.cell? ⟨g, 7 + i * 7 + 3, none⟩ = some (.int .i64 (dg m x 0)) ∧ w.cell? ⟨g, 7 + i * 7 + 4, none⟩ = some (.int .i64 (dg m x 1)) ∧ w.cell? ⟨g, 7 + i * 7 + 5, none⟩ = some (.int .i64 (dg m x 2)) ∧ w.cell? ⟨g, 7 + i * 7 + 6, none⟩ = some (.int .i64 (dg m x 3))) :
    Calls Try.prog 126 #[.int .i64 i, .pointer (some ⟨A0, 0, none⟩), .pointer (some ⟨A1, 0, none⟩)] w fun e w' => ∃ u, e = .returned u ∧ Row w' w.heap.size u l ∧ Below w.heap.size w w' := by
  have HE := Lib.hid HE0; clear HE0
  obtain ⟨e0, e1, e2, e3, e4, e5, e6⟩ := c2
  have l0 := World.block_lt_of_cell? w _ c0
  have l1 := World.block_lt_of_cell? w _ c1
  have l2 := World.block_lt_of_cell? w _ e0
  simp only at l0 l1 l2
  go_enter Try.func126, Try.ntmps126
  go_wp2_with fail
  go_region_with (go_at_call 83; refine (HE.out _ (by (repeat' (first | (with_reducible assumption) | (with_reducible exact Below.refl _ _) | (with_reducible refine below_drewN ?_ _) | (with_reducible refine Below.drew ?_) | (with_reducible refine Below.alloc ?_ ?_ _) | (with_reducible refine Below.setCell ?_ ?_ _) | (with_reducible refine Below.trans ?_ (Below.mono (by assumption) ?_)) | (with_reducible exact Nat.le_refl _) | (with_reducible assumption) | omega | (simp; omega) | (simp; done))))).mono ?_; rintro e w1 ⟨u, rfl, hr1, hb1⟩; have HR1 := Lib.hid hr1; clear hr1; obtain ⟨hc1, hf1⟩ := bcell hb1; (try simp only [World.size_drew] at hc1 hf1); have hz1 := hb1.size; (try simp at hz1); have HB1 := Lib.hid hb1; clear hb1)
  all_goals
    go_wp2
    go_ret
    have hb1 := HB1.out
    exact ⟨_, rfl, HR1.out.mono (by first | omega | (simp; done) | (simp; omega)), by (repeat' (first | (with_reducible assumption) | (with_reducible exact Below.refl _ _) | (with_reducible refine below_drewN ?_ _) | (with_reducible refine Below.drew ?_) | (with_reducible refine Below.alloc ?_ ?_ _) | (with_reducible refine Below.setCell ?_ ?_ _) | (with_reducible refine Below.trans ?_ (Below.mono (by assumption) ?_)) | (with_reducible exact Nat.le_refl _) | (with_reducible assumption) | omega | (simp; omega) | (simp; done)))⟩
set_option maxRecDepth 100000 in
set_option maxHeartbeats 4000000 in
/-- impl.listOf at slices. -/
theorem listOf_RC (n : Nat) (F : Nat → List Int) (A0 A1 : Nat) (w : World) (hn : n ≤ 1000) (HX : ∀ (i : Nat) w', i < n → Below w.heap.size w w' → Calls Try.prog 126 #[.int .i64 i, .pointer (some ⟨A0, 0, none⟩), .pointer (some ⟨A1, 0, none⟩)] w' fun e w'' => ∃ u, e = .returned u ∧ Row w'' w'.heap.size u (F i) ∧ Below w'.heap.size w' w'') :
    Calls Try.prog 125 #[.int .i64 n, .func (.func 126) #[] #[.pointer (some ⟨A0, 0, none⟩), .pointer (some ⟨A1, 0, none⟩)]] w fun e w' => ∃ v X, e = .returned v ∧ RS w' w.heap.size v n F X ∧ Below w.heap.size w w' := by
  obtain ⟨j0, hj, jz0, jz1, jz2⟩ := info_parts Try.infoR
  have HXX := Lib.hid HX; clear HX
  go_enter Try.func125, Try.ntmps125
  go_wp2_with (at_make; go_must (refine wpList_make_full _ rfl _ _ 90 rfl w.heap.size 22 j0 (.slice none 0 0) 1 Try.underlying90 hj jz0 jz1 .i64 .i64 _ _ n rfl rfl rfl rfl ?c3 ?c4 ?c5 ?_))
  case c3 => rw [jz2]; omega
  case c4 => unfold maxLen; omega
  case c5 => simp
  intro w1 hown hgrow
  have HR1 := Lib.hid (RS.made F hown)
  have hb : Below w.heap.size w w1 := (Below.refl _ _).grown hgrow (Nat.le_refl _) (fun k hk => by cases hk)
  have HW1 := Lib.hid hb
  have hgl1 : w.heap.size < w1.heap.size := (HR1.out.lt w.heap.size rfl).2
  clear hown hgrow hb
  go_wp2_with fail
  go_loopw [11] (fun vi wr => ∃ i : Nat, i ≤ n ∧ vi = .int .i64 i ∧ (∃ X, RS wr w.heap.size (.slice (some ⟨w.heap.size, 0, none⟩) n n) n (cutF F i) X) ∧ w.heap.size < wr.heap.size ∧ Below w.heap.size w wr) (fun vi _ => n - (intOf vi).toNat)
  case atStart => exact ⟨0, Nat.zero_le _, rfl, ⟨_, HR1.out⟩, hgl1, HW1.out⟩
  case round =>
    obtain ⟨i, hi, rfl, ⟨X, hr⟩, hgl, hb⟩ := hrel
    have HR := Lib.hid hr; clear hr
    have HB := Lib.hid hb; clear hb
    by_cases hlt : i < n
    · have HX' := Lib.hid (HXX.out i _ hlt HB.out)
      have HCS := Lib.hid (cutF_step F i)
      generalize F i = l at *
      go_wp2_with fail
      refine HX'.out.mono ?_
      rintro e w2 ⟨u, rfl, hu, hb2⟩
      have hr2 := HR.out.below hb2
      have HB2 := Lib.hid (HB.out.trans (hb2.mono HB.out.size))
      have hz2 := hb2.size
      obtain ⟨g', cp', hv', _, _, hcx⟩ := hr2.form (by omega)
      cases hv'
      have hci := hcx i hlt
      have hfr := hr2.frozen i
      have HS := Lib.hid (hr2.stored hlt (hu.mono (by omega)) (fun j hj hji g' hg' e => by
        have h1 := (HR.out.ltX j hj g' hg').2
        have h2 := (hu.lt g' e).1
        omega))
      obtain ⟨a2, cp2, hu2⟩ := hu.sl.form
      subst hu2
      clear hr2 hu hb2 hcx
      go_wp2
      go_roundw
      case rel => exact ⟨i + 1, by omega, by go_num, ⟨_, by rw [← HCS.out]; exact HS.out⟩, by simp; omega, HB2.out.setCell (Nat.le_refl _) _⟩
      case measure => simp [intOf]; omega
    · obtain rfl : n = i := by omega
      go_wp2
      go_ret
      exact ⟨_, X, rfl, HR.out.all, HB.out⟩
set_option maxHeartbeats 2000000 in
/-- impl.mapped over elements from the second on, at impl.poly.spreadOfCounts$1. -/
theorem mappedCN (m K g n cap : Nat) (X : Nat → Nat) (F : Nat → List Int) (w : World) (hl : n ≤ 1000) (hgl : g < w.heap.size) (hc : ∀ i, i < n → w.cell? ⟨g, 7 + i * 7, none⟩ = some (.int .i64 m) ∧ w.cell? ⟨g, 7 + i * 7 + 1, none⟩ = some (.int .i64 (pr m)) ∧ w.cell? ⟨g, 7 + i * 7 + 2, none⟩ = some (.int .i64 (pl m)) ∧ w.cell? ⟨g, 7 + i * 7 + 3, none⟩ = some (.int .i64 (dg m ((X i : Nat) : Int) 0)) ∧ w.cell? ⟨g, 7 + i * 7 + 4, none⟩ = some (.int .i64 (dg m ((X i : Nat) : Int) 1)) ∧ w.cell? ⟨g, 7 + i * 7 + 5, none⟩ = some (.int .i64 (dg m ((X i : Nat) : Int) 2)) ∧ w.cell? ⟨g, 7 + i * 7 + 6, none⟩ = some (.int .i64 (dg m ((X i : Nat) : Int) 3)))
    (HE : ∀ i, i < n → ∀ w', Below w.heap.size w w' → Calls Try.prog 83 #[elE (m : Int) ((X i : Nat) : Int), .pointer (some ⟨K, 0, none⟩)] w' fun e w'' => ∃ u, e = .returned u ∧ Row w'' w'.heap.size u (F i) ∧ Below w'.heap.size w' w'') :
    Calls Try.prog 85 #[.slice (some ⟨g, 7, none⟩) n cap, .func (.func 83) #[] #[.pointer (some ⟨K, 0, none⟩)]] w fun e w' => ∃ v X, e = .returned v ∧ RS w' w.heap.size v n F X ∧ Below w.heap.size w w' := by
  have HX : Hid (∀ (T1 T2 : TypeId) (i : Nat) w', i < n → Below ((w.alloc (lblk T1 (.slice (some ⟨g, 7, none⟩) n cap))).alloc (lblk T2 (.func (.func 83) #[] #[.pointer (some ⟨K, 0, none⟩)]))).heap.size ((w.alloc (lblk T1 (.slice (some ⟨g, 7, none⟩) n cap))).alloc (lblk T2 (.func (.func 83) #[] #[.pointer (some ⟨K, 0, none⟩)]))) w' →
      Calls Try.prog 126 #[.int .i64 i, .pointer (some ⟨w.heap.size + 1, 0, none⟩), .pointer (some ⟨w.heap.size, 0, none⟩)] w' fun e w'' => ∃ u, e = .returned u ∧ Row w'' w'.heap.size u (F i) ∧ Below w'.heap.size w' w'') := Lib.hid fun T1 T2 i w' hi hb => by
    have hbw : Below w.heap.size w w' := by (repeat' (first | (with_reducible assumption) | (with_reducible exact Below.refl _ _) | (with_reducible refine below_drewN ?_ _) | (with_reducible refine Below.drew ?_) | (with_reducible refine Below.alloc ?_ ?_ _) | (with_reducible refine Below.setCell ?_ ?_ _) | (with_reducible refine Below.trans ?_ (Below.mono (by assumption) ?_)) | (with_reducible exact Nat.le_refl _) | (with_reducible assumption) | omega | (simp; omega) | (simp; done)))
    have hcc : ∀ o v, w.cell? ⟨g, o, none⟩ = some v → w'.cell? ⟨g, o, none⟩ = some v := fun o v hh => (hbw.cell (p := ⟨g, o, none⟩) hgl).trans hh
    obtain ⟨e0, e1, e2, e3, e4, e5, e6⟩ := hc i hi
    refine cloCN m K g n cap i _ _ (X i) (F i) w' hi (fun w'' hb'' => HE i hi w'' (hbw.trans (hb''.mono hbw.size))) (at_box (T := T2) ?_) (at_box (T := T1) ?_) ⟨hcc _ _ e0, hcc _ _ e1, hcc _ _ e2, hcc _ _ e3, hcc _ _ e4, hcc _ _ e5, hcc _ _ e6⟩
    · rw [hb.block _ (by simp)]
      have := heap_alloc_new (w.alloc (lblk T1 (.slice (some ⟨g, 7, none⟩) n cap))) (lblk T2 (.func (.func 83) #[] #[.pointer (some ⟨K, 0, none⟩)]))
      simpa using this
    · rw [hb.block _ (by simp; omega), Below.heap_alloc _ _ _ (by simp)]
      exact heap_alloc_new w _
  clear HE hc
  go_enter Try.func85, Try.ntmps85
  go_wp2_with fail
  refine (listOf_RC n F (w.heap.size + 1) w.heap.size _ hl (HX.out _ _)).mono ?_
  rintro e w1 ⟨v1, X1, rfl, hr1, hb1⟩
  have HR := Lib.hid hr1; clear hr1
  have HB1 := Lib.hid hb1; clear hb1
  go_wp2
  go_ret
  have hb1 := HB1.out
  exact ⟨v1, X1, rfl, HR.out.mono (by first | omega | (simp; done) | (simp; omega)), by (repeat' (first | (with_reducible assumption) | (with_reducible exact Below.refl _ _) | (with_reducible refine below_drewN ?_ _) | (with_reducible refine Below.drew ?_) | (with_reducible refine Below.alloc ?_ ?_ _) | (with_reducible refine Below.setCell ?_ ?_ _) | (with_reducible refine Below.trans ?_ (Below.mono (by assumption) ?_)) | (with_reducible exact Nat.le_refl _) | (with_reducible assumption) | omega | (simp; omega) | (simp; done)))⟩
set_option maxHeartbeats 1000000 in
/-- impl.field.elements. -/
theorem elements_full (q : Int) (w : World) (h : isSz q = true) :
    Calls Try.prog 75 #[.agg #[.int .i64 q, .int .i64 (pr q), .int .i64 (pl q)]] w fun e w' => ∃ g, e = .returned (.slice (some ⟨g, 0, none⟩) q.toNat q.toNat) ∧ w.heap.size ≤ g ∧ Blk w' g q.toNat ∧ Els w' g q (fun j => (j : Int)) q.toNat ∧ Below w.heap.size w w' := by
  obtain ⟨i0, hi, iz0, iz1, iz2⟩ := info_parts Try.infoE
  have hq := isSz_le q h
  have HE := Lib.hid (fun (n : Nat) w (h2 : (n : Int) < q) => elementE q (n : Int) w h (by omega) h2)
  obtain ⟨m, hm⟩ := Int.eq_ofNat_of_zero_le (show 0 ≤ q by omega)
  subst hm
  rw [Int.toNat_natCast]
  clear h
  go_enter Try.func75, Try.ntmps75
  go_wp2_with (at_make; go_must (refine wpList_make_full _ rfl _ _ 43 rfl w.heap.size 49 i0 (.agg #[.int .i64 0, .int .i64 0, .int .i64 0, .int .i64 0, .int .i64 0, .int .i64 0, .int .i64 0]) 7 Try.underlying43 hi iz0 iz1 .i64 .i64 _ _ m rfl rfl rfl rfl ?c3 ?c4 ?c5 ?_))
  case c3 => rw [iz2]; omega
  case c4 => unfold maxLen; omega
  case c5 => simp
  intro w1 hown hgrow
  have hblk : Blk w1 (w.heap.size + 1) m := by
    rcases hown.2 with ⟨hx, _⟩ | ⟨g, cap, cur, hx, _, hh, _, _, hsz, _⟩
    · simp at hx
    · simp at hx
      obtain ⟨rfl, rfl⟩ := hx
      exact ⟨cur, hh, hsz⟩
  have hf : w1.heap[w.heap.size]? = some (.cells #[.int .i64 (m : Int), .int .i64 (pr (m : Int)), .int .i64 (pl (m : Int))] 42) := by
    rw [hgrow.block _ (by simp) (by simp), heap_alloc_new]
  have hb : Below w.heap.size w w1 := ((Below.refl _ _).alloc (Nat.le_refl _) _).grown hgrow (by simp) (fun k hk => by cases hk)
  have HB1 := Lib.hid hblk
  have HF1 := Lib.hid hf
  have HW1 := Lib.hid hb
  clear hown hgrow hblk hf hb
  go_wp2_with fail
  go_loopw [10] (fun vi wr => ∃ i : Nat, i ≤ m ∧ vi = .int .i64 i ∧ wr.heap[w.heap.size]? = some (.cells #[.int .i64 (m : Int), .int .i64 (pr (m : Int)), .int .i64 (pl (m : Int))] 42) ∧ Blk wr (w.heap.size + 1) m ∧ Els wr (w.heap.size + 1) (m : Int) (fun j => (j : Int)) i ∧ Below w.heap.size w wr) (fun vi _ => m - (intOf vi).toNat)
  case atStart => exact ⟨0, Nat.zero_le _, rfl, HF1.out, HB1.out, fun j hj => by omega, HW1.out⟩
  case round =>
    obtain ⟨i, hi, rfl, hf, hk, he, hb⟩ := hrel
    have HF := Lib.hid hf; clear hf
    have HK := Lib.hid hk; clear hk
    have HEl := Lib.hid he; clear he
    have HB := Lib.hid hb; clear hb
    by_cases hlt : i < m
    · have f0 : wr.cell? ⟨w.heap.size, 0, none⟩ = some (.int .i64 (m : Int)) := by rw [cell_of_row wr _ _ _ _ (0, 0) HF.out]; rfl
      have f1 : wr.cell? ⟨w.heap.size, 1, none⟩ = some (.int .i64 (pr (m : Int))) := by rw [cell_of_row wr _ _ _ _ (0, 0) HF.out]; rfl
      have f2 : wr.cell? ⟨w.heap.size, 2, none⟩ = some (.int .i64 (pl (m : Int))) := by rw [cell_of_row wr _ _ _ _ (0, 0) HF.out]; rfl
      go_wp2_with fail
      refine (HE.out i _ (by omega)).mono ?_
      rintro e w2 ⟨rfl, hb2⟩
      have hlt1 := HK.out.lt
      have hk2 : Blk w2 (w.heap.size + 1) m := by obtain ⟨cur, hc, hs⟩ := HK.out; exact ⟨cur, (hb2.block _ hlt1).trans hc, hs⟩
      have he2 : Els w2 (w.heap.size + 1) (m : Int) (fun j => (j : Int)) i := fun j hj => by
        have := HEl.out j hj
        obtain ⟨hc, _⟩ := bcell hb2
        simp only [hc _ _ hlt1]
        exact this
      have hf2 := (hb2.block w.heap.size (by omega)).trans HF.out
      have HB2 := Lib.hid (HB.out.trans (hb2.mono (by omega)))
      clear hb2
      obtain ⟨x0, c0⟩ := hk2.at (i * 7) (by omega)
      obtain ⟨x1, c1⟩ := hk2.at (i * 7 + 1) (by omega)
      obtain ⟨x2, c2⟩ := hk2.at (i * 7 + 2) (by omega)
      obtain ⟨x3, c3⟩ := hk2.at (i * 7 + 3) (by omega)
      obtain ⟨x4, c4⟩ := hk2.at (i * 7 + 4) (by omega)
      obtain ⟨x5, c5⟩ := hk2.at (i * 7 + 5) (by omega)
      obtain ⟨x6, c6⟩ := hk2.at (i * 7 + 6) (by omega)
      have fr := hk2.free
      have HST := Lib.hid (Els.step (f := fun j => (j : Int)) hk2 hlt he2)
      have HF2 := Lib.hid hf2
      clear hk2 he2 hf2
      go_wp2
      go_roundw
      case rel =>
        refine ⟨i + 1, by omega, by go_num, ?_, HST.out.2, HST.out.1, put7i_below HB2.out _ (by omega) _ _ _⟩
        exact (put7i_other _ _ _ _ _ _ (by omega)).trans HF2.out
      case measure => simp [intOf]; omega
    · obtain rfl : m = i := by omega
      go_wp2
      go_ret
      exact ⟨_, rfl, by omega, HK.out, HEl.out, HB.out⟩
set_option maxRecDepth 100000 in
set_option maxHeartbeats 4000000 in
/-- impl.field.nonzero. -/
theorem nonzeroE (m : Nat) (w : World) (h : isSz (m : Int) = true) :
    Calls Try.prog 86 #[fdE (m : Int)] w fun e w' => ∃ g cap, e = .returned (.slice (some ⟨g, 7, none⟩) (m - 1) cap) ∧ w.heap.size ≤ g ∧ g < w'.heap.size ∧ Els w' g (m : Int) (fun j => (j : Int)) m ∧ Below w.heap.size w w' := by
  have hq := isSz_le (m : Int) h
  have HE := Lib.hid (fun w => elements_full (m : Int) w h)
  rw [Int.toNat_natCast] at HE
  clear h
  go_enter Try.func86, Try.ntmps86
  go_wp2_with fail
  refine (HE.out _).mono ?_
  rintro e w1 ⟨g1, rfl, hg1, hk1, he1, hb1⟩
  have hgl := hk1.lt
  have HE1 := Lib.hid he1
  have HB1 : Hid (Below w.heap.size w w1) := Lib.hid (by (repeat' (first | (with_reducible assumption) | (with_reducible exact Below.refl _ _) | (with_reducible refine below_drewN ?_ _) | (with_reducible refine Below.drew ?_) | (with_reducible refine Below.alloc ?_ ?_ _) | (with_reducible refine Below.setCell ?_ ?_ _) | (with_reducible refine Below.trans ?_ (Below.mono (by assumption) ?_)) | (with_reducible exact Nat.le_refl _) | (with_reducible assumption) | omega | (simp; omega) | (simp; done))))
  clear hk1 he1 hb1
  simp at hg1
  have h1 : ¬ m = 1 := by omega
  go_wp2_with fail
  go_ret
  exact ⟨g1, _, rfl, by omega, hgl, HE1.out, HB1.out⟩
theorem fl_cat (f : Nat → Int) (d : Nat) : ∀ k, cat (fun i => fl (fun j => f (i * d + j)) d) k = fl f (k * d) := by
  intro k
  induction k with
  | zero => rw [Nat.zero_mul]; rfl
  | succ k ih =>
    show cat (fun i => fl (fun j => f (i * d + j)) d) k ++ fl (fun j => f (k * d + j)) d = _
    rw [ih, Nat.succ_mul]
    unfold fl
    rw [List.range_add, List.map_append, List.map_map]
    rfl
/-- All counts of all differences are those of each, one behind the other. -/
theorem cat_cfl (m : Nat) (t : Nat → Int) : cat (fun i => fl (oc (dft m t (i + 1)) m) m) (m - 1) = fl (cfl m t) ((m - 1) * m) := by
  rw [← fl_cat]
  congr 1
  funext i
  exact fl_congr fun j hj => (cfl_at t i j hj).symm
set_option maxRecDepth 100000 in
set_option maxHeartbeats 4000000 in
/-- impl.field.spreadOf. -/
theorem spreadOfE (m d k : Nat) (v : Value) (F : Nat → List Int) (X : Nat → Value) (c : Nat → Int) (B : Nat) (w : World) (h : RS w B v k F X) (hF : ∀ i, i < k → (F i).length = d) (hd : 1 ≤ d ∧ d ≤ 16) (hk : 1 ≤ k ∧ k ≤ 16) (hm : m ≤ 16) (hc : cat F k = fl c (k * d)) (hcb : ∀ i, 0 ≤ c i ∧ c i ≤ m) :
    Calls Try.prog 84 #[fdE (m : Int), v] w fun e w' => ∃ g', e = .returned (.slice (some ⟨g', 0, none⟩) (m + 1) (m + 1)) ∧ w.heap.size ≤ g' ∧ g' < w'.heap.size ∧ Row w' w.heap.size (.slice (some ⟨g', 0, none⟩) (m + 1) (m + 1)) (fl (oc c (k * d)) (m + 1)) ∧ Below w.heap.size w w' := by
  have HCO := Lib.hid (fun w' (hb : Below w.heap.size w w') => by
    have := concatE k d B v F X w' (h.below hb) hF hd hk
    rw [hc] at this
    exact this)
  have hkd : k * d ≤ 256 := Nat.le_trans (Nat.mul_le_mul hk.2 hd.2) (by decide)
  have HCI : Hid (∀ v' w', Sl w' v' (fl c (k * d)) → Calls Try.prog 122 #[.int .i64 ((m : Int) + 1), v', .func (.func 124) #[] #[]] w' fun e w'' => ∃ g', e = .returned (.slice (some ⟨g', 0, none⟩) (m + 1) (m + 1)) ∧ w'.heap.size ≤ g' ∧ g' < w''.heap.size ∧ Row w'' w'.heap.size (.slice (some ⟨g', 0, none⟩) (m + 1) (m + 1)) (fl (oc c (k * d)) (m + 1)) ∧ Below w'.heap.size w' w'') := Lib.hid fun v' w' hs =>
    countsI (m + 1) (k * d) v' c w' hs (fun i _ => ⟨(hcb i).1, by have := (hcb i).2; omega⟩) (by omega) (by omega)
  have HKEEP : Hid (∀ w', Below (w.heap.size + 1) (w.alloc (ffblk (m : Int))) w' → w'.cell? ⟨w.heap.size, 0, none⟩ = some (.int .i64 m) ∧ w'.cell? ⟨w.heap.size, 1, none⟩ = some (.int .i64 (pr m)) ∧ w'.cell? ⟨w.heap.size, 2, none⟩ = some (.int .i64 (pl m))) := Lib.hid fun w' hb => by
    obtain ⟨y0, y1, y2, _⟩ := cells3' ((hb.block _ (by omega)).trans (heap_alloc_new w (ffblk (m : Int))))
    exact ⟨y0, y1, y2⟩
  obtain ⟨a0, c0, rfl⟩ := h.slc
  clear h hF hc hcb
  generalize k * d = n at *
  generalize oc c n = C at *
  have hwn : IntKind.i64.wrap ((m : Int) + 1) = (m : Int) + 1 := IntWalk.i64_in _ (by omega)
  go_enter Try.func84, Try.ntmps84
  go_wp2_with fail
  go_region_held3 (fun w' => w'.cell? ⟨w.heap.size, 0, none⟩ = some (.int .i64 m) ∧ w'.cell? ⟨w.heap.size, 1, none⟩ = some (.int .i64 (pr m)) ∧ w'.cell? ⟨w.heap.size, 2, none⟩ = some (.int .i64 (pl m)))
    (exact HKEEP.out _ (by (try have hb3 := HB3.out); (try have hb4 := HB4.out); (repeat' (first | (with_reducible assumption) | (with_reducible exact Below.refl _ _) | (with_reducible refine below_drewN ?_ _) | (with_reducible refine Below.drew ?_) | (with_reducible refine Below.alloc ?_ ?_ _) | (with_reducible refine Below.setCell ?_ ?_ _) | (with_reducible refine Below.trans ?_ (Below.mono (by assumption) ?_)) | (with_reducible exact Nat.le_refl _) | (with_reducible assumption) | omega | (simp; omega) | (simp; done)))))
    (first
    | (go_at_call 123; refine (HCO.out _ (by (repeat' (first | (with_reducible assumption) | (with_reducible exact Below.refl _ _) | (with_reducible refine below_drewN ?_ _) | (with_reducible refine Below.drew ?_) | (with_reducible refine Below.alloc ?_ ?_ _) | (with_reducible refine Below.setCell ?_ ?_ _) | (with_reducible refine Below.trans ?_ (Below.mono (by assumption) ?_)) | (with_reducible exact Nat.le_refl _) | (with_reducible assumption) | omega | (simp; omega) | (simp; done))))).mono ?_; rintro e w3 ⟨v3, rfl, hr3, hb3⟩; have HR3 := Lib.hid hr3; clear hr3; obtain ⟨hc3, hf3⟩ := bcell hb3; (try simp only [World.size_drew] at hc3 hf3); have hz3 := hb3.size; (try simp at hz3); have HB3 := Lib.hid hb3; clear hb3)
    | (go_at_call 122; refine (HCI.out _ _ HR3.out.sl).mono ?_; rintro e w4 ⟨g4, rfl, hg4, hgl4, hr4, hb4⟩; have HR4 := Lib.hid hr4; clear hr4; obtain ⟨hc4, hf4⟩ := bcell hb4; (try simp only [World.size_drew] at hc4 hf4); have hz4 := hb4.size; (try simp at hz4); have HB4 := Lib.hid hb4; clear hb4))
  all_goals
    go_wp2
    go_ret
    have hb3 := HB3.out
    have hb4 := HB4.out
    exact ⟨_, rfl, by first | omega | (simp at *; omega), by first | omega | (simp; omega), HR4.out.mono (by first | omega | (simp; done) | (simp; omega)), by (repeat' (first | (with_reducible assumption) | (with_reducible exact Below.refl _ _) | (with_reducible refine below_drewN ?_ _) | (with_reducible refine Below.drew ?_) | (with_reducible refine Below.alloc ?_ ?_ _) | (with_reducible refine Below.setCell ?_ ?_ _) | (with_reducible refine Below.trans ?_ (Below.mono (by assumption) ?_)) | (with_reducible exact Nat.le_refl _) | (with_reducible assumption) | omega | (simp; omega) | (simp; done)))⟩
set_option maxRecDepth 100000 in
set_option maxHeartbeats 4000000 in
/-- impl.poly.spreadOfCounts. -/
theorem spreadOfCountsE (m : Nat) (v : Value) (t : Nat → Int) (w : World) (h : isSz (m : Int) = true) (hv : IsP w v m t) :
    Calls Try.prog 50 #[polyE (m : Int) v] w fun e w' => ∃ g', e = .returned (.slice (some ⟨g', 0, none⟩) (m + 1) (m + 1)) ∧ w.heap.size ≤ g' ∧ g' < w'.heap.size ∧ Row w' w.heap.size (.slice (some ⟨g', 0, none⟩) (m + 1) (m + 1)) (fl (spr m t) (m + 1)) ∧ Below w.heap.size w w' := by
  have hq := isSz_le (m : Int) h
  obtain ⟨g, k, cap, f, rfl, hg, he, hf, hk, htab⟩ := hv.tab h
  have htel : ∀ i, i < m → El (m : Int) (t i) := fun i hi => by rw [← htab i hi]; exact hor_el h (El.nat hi) (fun j _ => hf j) k (Nat.le_refl _)
  have HTB : Hid (∀ w', Below w.heap.size w w' → Calls Try.prog 46 #[polyE (m : Int) (.slice (some ⟨g, 0, none⟩) k cap)] w' fun e w'' => ∃ g', e = .returned (.slice (some ⟨g', 0, none⟩) m m) ∧ w'.heap.size ≤ g' ∧ Blk w'' g' m ∧ Els w'' g' (m : Int) t m ∧ Below w'.heap.size w' w'') := Lib.hid fun w' hb =>
    (tableM m g k cap f w' h (by have := hb.size; omega) (he.below hb hg) (fun i _ => hf i) (by omega)).mono fun e w'' ⟨g', h1, h2, h3, h4, h5⟩ => ⟨g', h1, h2, h3, h4.like' htab, h5⟩
  have HNZ := Lib.hid (fun w => nonzeroE m w h)
  have HCL := Lib.hid (fun (x : Nat) (hx : x < m) (K gt : Nat) w' hK hgt het => cntClo m x gt m K t w' h hx hK hgt het htel)
  obtain ⟨F, hFF⟩ : ∃ F : Nat → List Int, F = fun i => fl (oc (dft m t (i + 1)) m) m := ⟨_, rfl⟩
  have HF : Hid (∀ i, fl (oc (dft m t (i + 1)) m) m = F i) := Lib.hid fun i => by rw [hFF]
  have HFL : Hid (∀ i, (F i).length = m) := Lib.hid fun i => by rw [hFF, fl_len]
  have HCAT : Hid (cat F (m - 1) = fl (cfl m t) ((m - 1) * m)) := Lib.hid (by rw [hFF]; exact cat_cfl m t)
  have HCB := Lib.hid (cfl_bd m t)
  have HSP : Hid (spr m t = oc (cfl m t) ((m - 1) * m)) := Lib.hid rfl
  rw [HSP.out]
  clear h hv he hf htab htel hFF HSP
  generalize cfl m t = c at *
  go_enter Try.func50, Try.ntmps50
  go_wp2_with fail
  refine (HTB.out _ (by (repeat' (first | (with_reducible assumption) | (with_reducible exact Below.refl _ _) | (with_reducible refine below_drewN ?_ _) | (with_reducible refine Below.drew ?_) | (with_reducible refine Below.alloc ?_ ?_ _) | (with_reducible refine Below.setCell ?_ ?_ _) | (with_reducible refine Below.trans ?_ (Below.mono (by assumption) ?_)) | (with_reducible exact Nat.le_refl _) | (with_reducible assumption) | omega | (simp; omega) | (simp; done))))).mono ?_
  rintro e w1 ⟨g1, rfl, hg1, hk1, he1, hb1⟩
  have hgl1 := hk1.lt
  simp at hg1
  have HE1 := Lib.hid he1
  have h0 := (hb1.block w.heap.size (by simp)).trans (heap_alloc_new w (pblk (m : Int) (.slice (some ⟨g, 0, none⟩) k cap)))
  have HP0 := Lib.hid h0
  have HB1 : Hid (Below w.heap.size w w1) := Lib.hid (by (repeat' (first | (with_reducible assumption) | (with_reducible exact Below.refl _ _) | (with_reducible refine below_drewN ?_ _) | (with_reducible refine Below.drew ?_) | (with_reducible refine Below.alloc ?_ ?_ _) | (with_reducible refine Below.setCell ?_ ?_ _) | (with_reducible refine Below.trans ?_ (Below.mono (by assumption) ?_)) | (with_reducible exact Nat.le_refl _) | (with_reducible assumption) | omega | (simp; omega) | (simp; done))))
  have hz1 : w.heap.size < w1.heap.size := by omega
  clear hk1 he1 hb1 h0
  go_wp2_with fail
  have HKEEP : Hid (∀ w', Below (w1.heap.size + 1) (w1.alloc (.cells #[.slice (some ⟨g1, 0, none⟩) m m] 43)) w' → w'.cell? ⟨w.heap.size, 0, none⟩ = some (.int .i64 m) ∧ w'.cell? ⟨w.heap.size, 1, none⟩ = some (.int .i64 (pr m)) ∧ w'.cell? ⟨w.heap.size, 2, none⟩ = some (.int .i64 (pl m)) ∧ w'.cell? ⟨w.heap.size, 3, none⟩ = some (.slice (some ⟨g, 0, none⟩) k cap)) := Lib.hid fun w' hb => by
    have hbw : Below w1.heap.size w1 w' := by (repeat' (first | (with_reducible assumption) | (with_reducible exact Below.refl _ _) | (with_reducible refine below_drewN ?_ _) | (with_reducible refine Below.drew ?_) | (with_reducible refine Below.alloc ?_ ?_ _) | (with_reducible refine Below.setCell ?_ ?_ _) | (with_reducible refine Below.trans ?_ (Below.mono (by assumption) ?_)) | (with_reducible exact Nat.le_refl _) | (with_reducible assumption) | omega | (simp; omega) | (simp; done)))
    obtain ⟨x0, x1, x2, x3, _⟩ := cells4 ((hbw.block _ hz1).trans HP0.out)
    exact ⟨x0, x1, x2, x3⟩
  have HCC : Hid (∀ w', Below (w1.heap.size + 1) (w1.alloc (.cells #[.slice (some ⟨g1, 0, none⟩) m m] 43)) w' → ∀ x : Nat, x < m → Calls Try.prog 83 #[elE (m : Int) (x : Int), .pointer (some ⟨w1.heap.size, 0, none⟩)] w' fun e w'' => ∃ u, e = .returned u ∧ Row w'' w'.heap.size u (fl (oc (dft m t x) m) m) ∧ Below w'.heap.size w' w'') := Lib.hid fun w' hb x hx => by
    have hbw : Below w1.heap.size w1 w' := by (repeat' (first | (with_reducible assumption) | (with_reducible exact Below.refl _ _) | (with_reducible refine below_drewN ?_ _) | (with_reducible refine Below.drew ?_) | (with_reducible refine Below.alloc ?_ ?_ _) | (with_reducible refine Below.setCell ?_ ?_ _) | (with_reducible refine Below.trans ?_ (Below.mono (by assumption) ?_)) | (with_reducible exact Nat.le_refl _) | (with_reducible assumption) | omega | (simp; omega) | (simp; done)))
    exact HCL.out x hx w1.heap.size g1 w' (at_box ((hb.block _ (by omega)).trans (heap_alloc_new w1 _))) (by have := hbw.size; omega) (HE1.out.below hbw hgl1)
  go_region_held3 (fun w' => w'.cell? ⟨w.heap.size, 0, none⟩ = some (.int .i64 m) ∧ w'.cell? ⟨w.heap.size, 1, none⟩ = some (.int .i64 (pr m)) ∧ w'.cell? ⟨w.heap.size, 2, none⟩ = some (.int .i64 (pl m)) ∧ w'.cell? ⟨w.heap.size, 3, none⟩ = some (.slice (some ⟨g, 0, none⟩) k cap))
    (exact HKEEP.out _ (by (try have hb3 := HB3.out); (try have hb4 := HB4.out); (try have hb5 := HB5.out); (repeat' (first | (with_reducible assumption) | (with_reducible exact Below.refl _ _) | (with_reducible refine below_drewN ?_ _) | (with_reducible refine Below.drew ?_) | (with_reducible refine Below.alloc ?_ ?_ _) | (with_reducible refine Below.setCell ?_ ?_ _) | (with_reducible refine Below.trans ?_ (Below.mono (by assumption) ?_)) | (with_reducible exact Nat.le_refl _) | (with_reducible assumption) | omega | (simp; omega) | (simp; done)))))
    (first
    | (go_at_call 86; refine (HNZ.out _).mono ?_; rintro e w3 ⟨g3, cp3, rfl, hg3, hgl3, he3, hb3⟩; have HE3 := Lib.hid he3; clear he3; obtain ⟨hc3, hf3⟩ := bcell hb3; (try simp only [World.size_drew] at hc3 hf3); have hz3 := hb3.size; (try simp at hz3); have HB3 := Lib.hid hb3; clear hb3)
    | (go_at_call 85; refine (mappedCN m w1.heap.size g3 (m - 1) cp3 (fun i => i + 1) F _ (by omega) (by first | omega | (simp; omega)) (fun i hi => by have := HE3.out (i + 1) (by omega); rw [show (i + 1) * 7 = 7 + i * 7 by omega] at this; exact this) (fun i hi w' hb' => by rw [← HF.out i]; exact HCC.out w' (by have hb3 := HB3.out; (repeat' (first | (with_reducible assumption) | (with_reducible exact Below.refl _ _) | (with_reducible refine below_drewN ?_ _) | (with_reducible refine Below.drew ?_) | (with_reducible refine Below.alloc ?_ ?_ _) | (with_reducible refine Below.setCell ?_ ?_ _) | (with_reducible refine Below.trans ?_ (Below.mono (by assumption) ?_)) | (with_reducible exact Nat.le_refl _) | (with_reducible assumption) | omega | (simp; omega) | (simp; done)))) (i + 1) (by omega))).mono ?_; rintro e w4 ⟨v4, X4, rfl, hr4, hb4⟩; have HR4 := Lib.hid hr4; clear hr4; obtain ⟨hc4, hf4⟩ := bcell hb4; (try simp only [World.size_drew] at hc4 hf4); have hz4 := hb4.size; (try simp at hz4); have HB4 := Lib.hid hb4; clear hb4)
    | (go_at_call 84; refine (spreadOfE m m (m - 1) _ F _ c _ _ HR4.out (fun i _ => HFL.out i) (by omega) (by omega) (by omega) HCAT.out HCB.out).mono ?_; rintro e w5 ⟨g5, rfl, hg5, hgl5, hr5, hb5⟩; have HR5 := Lib.hid hr5; clear hr5; obtain ⟨hc5, hf5⟩ := bcell hb5; (try simp only [World.size_drew] at hc5 hf5); have hz5 := hb5.size; (try simp at hz5); have HB5 := Lib.hid hb5; clear hb5))
  all_goals
    go_wp2
    go_ret
    have hb1 := HB1.out
    have hb3 := HB3.out
    have hb4 := HB4.out
    have hb5 := HB5.out
    exact ⟨_, rfl, by first | omega | (simp at *; omega), by first | omega | (simp; omega), HR5.out.mono (by first | omega | (simp; done) | (simp; omega)), by (repeat' (first | (with_reducible assumption) | (with_reducible exact Below.refl _ _) | (with_reducible refine below_drewN ?_ _) | (with_reducible refine Below.drew ?_) | (with_reducible refine Below.alloc ?_ ?_ _) | (with_reducible refine Below.setCell ?_ ?_ _) | (with_reducible refine Below.trans ?_ (Below.mono (by assumption) ?_)) | (with_reducible exact Nat.le_refl _) | (with_reducible assumption) | omega | (simp; omega) | (simp; done)))⟩
end Go.Proofs.Ytgndlpdcebmgmaa
