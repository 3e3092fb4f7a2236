/- RowsOf, of both, by contracts; the walk of its law. -/
import Derived.Test.YtgndlpdcebmgmabRF
import Derived.Test.YtgndlpdcebmgmabRM
import Derived.Test.YtgndlpdcebmgmabU
import Derived.Deep.RegionHeld3
namespace Go.Proofs.Ytgndlpdcebmgmab
open Go.RowKit
/-- The rows of a table. -/
def rsF (m : Nat) (t : Nat → Int) : Nat → List Int := fun i => digs (plN m) (pr m) (t (pp m i))
theorem RS.lts {w : World} {B n : Nat} {v : Value} {F : Nat → List Int} {X : Nat → Value} (h : RS w B v n F X) : (∀ g, v.ownBlock = some g → B ≤ g ∧ g < w.heap.size) ∧ ∀ i, i < n → ∀ g, (X i).ownBlock = some g → B ≤ g ∧ g < w.heap.size :=
  ⟨h.lt, h.ltX⟩
theorem rsF_len (m : Nat) (t : Nat → Int) (i : Nat) : (rsF m t i).length = plN m := digs_len _ _ _
set_option maxRecDepth 100000 in
set_option maxHeartbeats 4000000 in
/-- The closure of impl.poly.rows. -/
theorem rowsClo (m g n cap P x : Nat) (f : Nat → Int) (w : World) (h : isSz (m : Int) = true) (hx : x < m) (hg : g < w.heap.size) (he : Els w g (m : Int) f n) (hf : ∀ i, El (m : Int) (f i)) (hn : n ≤ 1000) (hP : w.heap[P]? = some (pblk (m : Int) (.slice (some ⟨g, 0, none⟩) n cap))) :
    Calls Try.prog 113 #[.int .i64 x, .pointer (some ⟨P, 0, none⟩)] w fun e w' => ∃ u, e = .returned u ∧ Row w' w.heap.size u (digs (plN m) (pr m) (tabF (m : Int) f n x)) ∧ Below w.heap.size w w' := by
  have HE := Lib.hid (fun w => elementE (m : Int) (x : Int) w h (by omega) (by omega))
  have HA := Lib.hid (fun w' (hb : Below w.heap.size w w') => atE (m : Int) (x : Int) g cap n f w' h (El.nat hx) (by have := hb.size; omega) (he.below hb hg) (fun i _ => hf i) hn)
  have HD := Lib.hid (fun w => digitListE (m : Int) (hor (m : Int) (x : Int) f n n) w h)
  have HTF : Hid (tabF (m : Int) f n x = hor (m : Int) (x : Int) f n n) := Lib.hid rfl
  rw [HTF.out]
  have hPl : P < w.heap.size := (Array.getElem?_eq_some_iff.1 hP).1
  have HKEEP : Hid (∀ w', Below w.heap.size w w' → w'.cell? ⟨P, 0, none⟩ = some (.int .i64 m) ∧ w'.cell? ⟨P, 1, none⟩ = some (.int .i64 (pr m)) ∧ w'.cell? ⟨P, 2, none⟩ = some (.int .i64 (pl m)) ∧ w'.cell? ⟨P, 3, none⟩ = some (.slice (some ⟨g, 0, none⟩) n cap)) := Lib.hid fun w' hb => by
    obtain ⟨x0, x1, x2, x3, _⟩ := cells4 ((hb.block _ hPl).trans hP)
    exact ⟨x0, x1, x2, x3⟩
  clear h he hf hP HTF
  generalize hor (m : Int) (x : Int) f n n = y at *
  generalize digs (plN (m : Int)) (pr m) y = l at *
  go_enter Try.func113, Try.ntmps113
  go_wp2_with fail
  go_region_held3 (fun w' => w'.cell? ⟨P, 0, none⟩ = some (.int .i64 m) ∧ w'.cell? ⟨P, 1, none⟩ = some (.int .i64 (pr m)) ∧ w'.cell? ⟨P, 2, none⟩ = some (.int .i64 (pl m)) ∧ w'.cell? ⟨P, 3, none⟩ = some (.slice (some ⟨g, 0, none⟩) n cap))
    (exact HKEEP.out _ (by (try have hb3 := HB3.out); (try have hb4 := HB4.out); (try have hb5 := HB5.out); (repeat' (first | (with_reducible assumption) | (with_reducible exact Below.refl _ _) | (with_reducible refine below_drewN ?_ _) | (with_reducible refine Below.drew ?_) | (with_reducible refine Below.alloc ?_ ?_ _) | (with_reducible refine Below.setCell ?_ ?_ _) | (with_reducible refine Below.trans ?_ (Below.mono (by assumption) ?_)) | (with_reducible exact Nat.le_refl _) | (with_reducible assumption) | omega | (simp; omega) | (simp; done)))))
    (first
    | (go_at_call 72; refine (HE.out _).mono ?_; rintro e w3 ⟨rfl, hb3⟩; obtain ⟨hc3, hf3⟩ := bcell hb3; (try simp only [World.size_drew] at hc3 hf3); have hz3 := hb3.size; (try simp at hz3); have HB3 := Lib.hid hb3; clear hb3)
    | (go_at_call 114; refine (HA.out _ (by (try have hb3 := HB3.out); (repeat' (first | (with_reducible assumption) | (with_reducible exact Below.refl _ _) | (with_reducible refine below_drewN ?_ _) | (with_reducible refine Below.drew ?_) | (with_reducible refine Below.alloc ?_ ?_ _) | (with_reducible refine Below.setCell ?_ ?_ _) | (with_reducible refine Below.trans ?_ (Below.mono (by assumption) ?_)) | (with_reducible exact Nat.le_refl _) | (with_reducible assumption) | omega | (simp; omega) | (simp; done))))).mono ?_; rintro e w4 ⟨rfl, hb4⟩; obtain ⟨hc4, hf4⟩ := bcell hb4; (try simp only [World.size_drew] at hc4 hf4); have hz4 := hb4.size; (try simp at hz4); have HB4 := Lib.hid hb4; clear hb4)
    | (go_at_call 115; refine (HD.out _).mono ?_; rintro e w5 ⟨v5, rfl, hr5, hb5⟩; have HR5 := Lib.hid hr5; clear hr5; obtain ⟨hc5, hf5⟩ := bcell hb5; (try simp only [World.size_drew] at hc5 hf5); have hz5 := hb5.size; (try simp at hz5); have HB5 := Lib.hid hb5; clear hb5))
  all_goals
    go_wp2
    go_ret
    have hb3 := HB3.out
    have hb4 := HB4.out
    have hb5 := HB5.out
    exact ⟨_, rfl, HR5.out.mono (by first | omega | (simp; done) | (simp; omega)), by (repeat' (first | (with_reducible assumption) | (with_reducible exact Below.refl _ _) | (with_reducible refine below_drewN ?_ _) | (with_reducible refine Below.drew ?_) | (with_reducible refine Below.alloc ?_ ?_ _) | (with_reducible refine Below.setCell ?_ ?_ _) | (with_reducible refine Below.trans ?_ (Below.mono (by assumption) ?_)) | (with_reducible exact Nat.le_refl _) | (with_reducible assumption) | omega | (simp; omega) | (simp; done)))⟩
set_option maxHeartbeats 1000000 in
/-- The closure of impl.mapped over numbers, at impl.poly.rows$1. -/
theorem cloRW (P b n cap i A0 A1 x : Nat) (l : List Int) (w : World) (hin : i < n)
    (HE0 : ∀ w', Below w.heap.size w w' → Calls Try.prog 113 #[.int .i64 x, .pointer (some ⟨P, 0, none⟩)] w' fun e w'' => ∃ u, e = .returned u ∧ Row w'' w'.heap.size u l ∧ Below w'.heap.size w' w'')
    (c0 : w.cell? ⟨A0, 0, none⟩ = some (.func (.func 113) #[] #[.pointer (some ⟨P, 0, none⟩)])) (c1 : w.cell? ⟨A1, 0, none⟩ = some (.slice (some ⟨b, 0, none⟩) n cap)) (c2 : w.cell? ⟨b, i, none⟩ = some (.int .i64 x)) :
    Calls Try.prog 134 #[.int .i64 i, .pointer (some ⟨A0, 0, none⟩), .pointer (some ⟨A1, 0, none⟩)] w fun e w' => ∃ u, e = .returned u ∧ Row w' w.heap.size u l ∧ Below w.heap.size w w' := by
  have HE := Lib.hid HE0; clear HE0
  have l0 := World.block_lt_of_cell? w _ c0
  have l1 := World.block_lt_of_cell? w _ c1
  have l2 := World.block_lt_of_cell? w _ c2
  simp only at l0 l1 l2
  go_enter Try.func134, Try.ntmps134
  go_wp2_with fail
  go_region_with (go_at_call 113; refine (HE.out _ (by (repeat' (first | (with_reducible assumption) | (with_reducible exact Below.refl _ _) | (with_reducible refine below_drewN ?_ _) | (with_reducible refine Below.drew ?_) | (with_reducible refine Below.alloc ?_ ?_ _) | (with_reducible refine Below.setCell ?_ ?_ _) | (with_reducible refine Below.trans ?_ (Below.mono (by assumption) ?_)) | (with_reducible exact Nat.le_refl _) | (with_reducible assumption) | omega | (simp; omega) | (simp; done))))).mono ?_; rintro e w1 ⟨u, rfl, hr1, hb1⟩; have HR1 := Lib.hid hr1; clear hr1; obtain ⟨hc1, hf1⟩ := bcell hb1; (try simp only [World.size_drew] at hc1 hf1); have hz1 := hb1.size; (try simp at hz1); have HB1 := Lib.hid hb1; clear hb1)
  all_goals
    go_wp2
    go_ret
    have hb1 := HB1.out
    exact ⟨_, rfl, HR1.out.mono (by first | omega | (simp; done) | (simp; omega)), by (repeat' (first | (with_reducible assumption) | (with_reducible exact Below.refl _ _) | (with_reducible refine below_drewN ?_ _) | (with_reducible refine Below.drew ?_) | (with_reducible refine Below.alloc ?_ ?_ _) | (with_reducible refine Below.setCell ?_ ?_ _) | (with_reducible refine Below.trans ?_ (Below.mono (by assumption) ?_)) | (with_reducible exact Nat.le_refl _) | (with_reducible assumption) | omega | (simp; omega) | (simp; done)))⟩
set_option maxHeartbeats 2000000 in
/-- impl.mapped over numbers, at impl.poly.rows$1. -/
theorem mappedRW (b n cap P : Nat) (X : Nat → Nat) (F : Nat → List Int) (w : World) (hl : n ≤ 1000) (hbl : b < w.heap.size) (hc : ∀ i, i < n → w.cell? ⟨b, i, none⟩ = some (.int .i64 (X i)))
    (HE : ∀ i, i < n → ∀ w', Below w.heap.size w w' → Calls Try.prog 113 #[.int .i64 (X i), .pointer (some ⟨P, 0, none⟩)] w' fun e w'' => ∃ u, e = .returned u ∧ Row w'' w'.heap.size u (F i) ∧ Below w'.heap.size w' w'') :
    Calls Try.prog 112 #[.slice (some ⟨b, 0, none⟩) n cap, .func (.func 113) #[] #[.pointer (some ⟨P, 0, none⟩)]] w fun e w' => ∃ v X, e = .returned v ∧ RS w' w.heap.size v n F X ∧ Below w.heap.size w w' := by
  have HX : Hid (∀ (T1 T2 : TypeId) (i : Nat) w', i < n → Below ((w.alloc (lblk T1 (.slice (some ⟨b, 0, none⟩) n cap))).alloc (lblk T2 (.func (.func 113) #[] #[.pointer (some ⟨P, 0, none⟩)]))).heap.size ((w.alloc (lblk T1 (.slice (some ⟨b, 0, none⟩) n cap))).alloc (lblk T2 (.func (.func 113) #[] #[.pointer (some ⟨P, 0, none⟩)]))) w' →
      Calls Try.prog 134 #[.int .i64 i, .pointer (some ⟨w.heap.size + 1, 0, none⟩), .pointer (some ⟨w.heap.size, 0, none⟩)] w' fun e w'' => ∃ u, e = .returned u ∧ Row w'' w'.heap.size u (F i) ∧ Below w'.heap.size w' w'') := Lib.hid fun T1 T2 i w' hi hb => by
    have hbw : Below w.heap.size w w' := by (repeat' (first | (with_reducible assumption) | (with_reducible exact Below.refl _ _) | (with_reducible refine below_drewN ?_ _) | (with_reducible refine Below.drew ?_) | (with_reducible refine Below.alloc ?_ ?_ _) | (with_reducible refine Below.setCell ?_ ?_ _) | (with_reducible refine Below.trans ?_ (Below.mono (by assumption) ?_)) | (with_reducible exact Nat.le_refl _) | (with_reducible assumption) | omega | (simp; omega) | (simp; done)))
    refine cloRW P b n cap i _ _ (X i) (F i) w' hi (fun w'' hb'' => HE i hi w'' (hbw.trans (hb''.mono hbw.size))) (at_box (T := T2) ?_) (at_box (T := T1) ?_) ((hbw.cell (p := ⟨b, i, none⟩) hbl).trans (hc i hi))
    · rw [hb.block _ (by simp)]
      have := heap_alloc_new (w.alloc (lblk T1 (.slice (some ⟨b, 0, none⟩) n cap))) (lblk T2 (.func (.func 113) #[] #[.pointer (some ⟨P, 0, none⟩)]))
      simpa using this
    · rw [hb.block _ (by simp; omega), Below.heap_alloc _ _ _ (by simp)]
      exact heap_alloc_new w _
  clear HE hc
  go_enter Try.func112, Try.ntmps112
  go_wp2_with fail
  refine (listOf_R n F (w.heap.size + 1) w.heap.size _ hl (HX.out _ _)).mono ?_
  rintro e w1 ⟨v1, X1, rfl, hr1, hb1⟩
  have HR := Lib.hid hr1; clear hr1
  have HB1 := Lib.hid hb1; clear hb1
  go_wp2
  go_ret
  have hb1 := HB1.out
  exact ⟨v1, X1, rfl, HR.out.mono (by first | omega | (simp; done) | (simp; omega)), by (repeat' (first | (with_reducible assumption) | (with_reducible exact Below.refl _ _) | (with_reducible refine below_drewN ?_ _) | (with_reducible refine Below.drew ?_) | (with_reducible refine Below.alloc ?_ ?_ _) | (with_reducible refine Below.setCell ?_ ?_ _) | (with_reducible refine Below.trans ?_ (Below.mono (by assumption) ?_)) | (with_reducible exact Nat.le_refl _) | (with_reducible assumption) | omega | (simp; omega) | (simp; done)))⟩
set_option maxRecDepth 100000 in
set_option maxHeartbeats 4000000 in
/-- impl.poly.rows. -/
theorem rowsE (m n : Nat) (v : Value) (f : Nat → Int) (w : World) (h : isSz (m : Int) = true) (hv : Se w v (m : Int) f n) (hf : ∀ i, El (m : Int) (f i)) (hn : n ≤ 1000) :
    Calls Try.prog 80 #[polyE (m : Int) v] w fun e w' => ∃ v X, e = .returned v ∧ RS w' w.heap.size v (plN m) (rsF m (tabF (m : Int) f n)) X ∧ Below w.heap.size w w' := by
  have hq := isSz_le (m : Int) h
  have hkb := plN_bd (m : Int) h
  have HP := Lib.hid (fun w => primePowersE (m : Int) w h)
  have HPL := Lib.hid (pp_lt (m : Int) h)
  obtain ⟨g0, cap0, rfl, hg0, he0⟩ := hv
  have HRC := Lib.hid (fun (i : Nat) (hi : i < plN (m : Int)) w' (hb : Below (w.heap.size + 1) (w.alloc (pblk (m : Int) (.slice (some ⟨g0, 0, none⟩) n cap0))) w') => rowsClo m g0 n cap0 w.heap.size (pp m i) f w' h (by have := (HPL.out i hi).2; omega) (by have := hb.size; simp at this; omega) (he0.below (B := w.heap.size) (by (repeat' (first | (with_reducible assumption) | (with_reducible exact Below.refl _ _) | (with_reducible refine below_drewN ?_ _) | (with_reducible refine Below.drew ?_) | (with_reducible refine Below.alloc ?_ ?_ _) | (with_reducible refine Below.setCell ?_ ?_ _) | (with_reducible refine Below.trans ?_ (Below.mono (by assumption) ?_)) | (with_reducible exact Nat.le_refl _) | (with_reducible assumption) | omega | (simp; omega) | (simp; done)))) hg0) hf hn ((hb.block _ (by omega)).trans (heap_alloc_new w _)))
  have HMA := Lib.hid (fun b w => mappedRW b (plN m) (plN m) w (pp m) (rsF m (tabF (m : Int) f n)))
  have HRF : Hid (∀ i, rsF m (tabF (m : Int) f n) i = digs (plN m) (pr m) (tabF (m : Int) f n (pp m i))) := Lib.hid fun _ => rfl
  clear h he0 hf
  generalize tabF (m : Int) f n = t at *
  go_enter Try.func80, Try.ntmps80
  go_wp2_with fail
  refine (HP.out _).mono ?_
  rintro e w1 ⟨gP, rfl, hgP, hgPl, hrP, hb1⟩
  have hbx : Below (w.heap.size + 1) (w.alloc (pblk (m : Int) (.slice (some ⟨g0, 0, none⟩) n cap0))) w1 := by (repeat' (first | (with_reducible assumption) | (with_reducible exact Below.refl _ _) | (with_reducible refine below_drewN ?_ _) | (with_reducible refine Below.drew ?_) | (with_reducible refine Below.alloc ?_ ?_ _) | (with_reducible refine Below.setCell ?_ ?_ _) | (with_reducible refine Below.trans ?_ (Below.mono (by assumption) ?_)) | (with_reducible exact Nat.le_refl _) | (with_reducible assumption) | omega | (simp; omega) | (simp; done)))
  have HMM := Lib.hid (HMA.out gP w.heap.size w1 (by omega) hgPl (fun i hi => by
      have := Row.cell (l := fl (ppf (m : Int)) (plN (m : Int))) (cap := plN (m : Int)) (by rw [fl_len]; exact hrP) i (by rw [fl_len]; exact hi)
      rwa [fl_get _ _ _ hi] at this) (fun i hi w' hb => by
      rw [HRF.out]
      exact HRC.out i hi w' (hbx.trans (hb.mono (by have := hbx.size; simpa using this)))))
  have HB1 : Hid (Below w.heap.size w w1) := Lib.hid (by (repeat' (first | (with_reducible assumption) | (with_reducible exact Below.refl _ _) | (with_reducible refine below_drewN ?_ _) | (with_reducible refine Below.drew ?_) | (with_reducible refine Below.alloc ?_ ?_ _) | (with_reducible refine Below.setCell ?_ ?_ _) | (with_reducible refine Below.trans ?_ (Below.mono (by assumption) ?_)) | (with_reducible exact Nat.le_refl _) | (with_reducible assumption) | omega | (simp; omega) | (simp; done))))
  clear hrP hb1 hbx HRC HRF
  go_wp2_with fail
  refine HMM.out.mono ?_
  rintro e w3 ⟨v3, X3, rfl, hr3, hb3⟩
  have HR3 := Lib.hid hr3
  have HB3 : Hid (Below w.heap.size w w3) := Lib.hid (HB1.out.trans (hb3.mono HB1.out.size))
  have hz1 := HB1.out.size
  clear hr3 hb3
  go_wp2
  go_ret
  exact ⟨v3, X3, rfl, HR3.out.mono hz1, HB3.out⟩
theorem spec_RowsOf_no (q : Int) (v : Value) (l : List Int) (w : World) (hv : Sl w v l) (hl : l.length ≤ 1048576) (hg : addL q l = false) :
    Calls Try.prog 33 #[.int .i64 q, v] w fun e w' => e = .returned (.tuple #[.slice none 0 0, .bool false]) ∧ Below w.heap.size w w' := by
  obtain ⟨_, HP⟩ : ∃ _ : Unit, Hid (Calls Try.prog 73 #[.int .i64 q, v] w fun e w' => ∃ v', e = .returned (.tuple #[v', .bool false]) ∧ Below w.heap.size w w') := ⟨(), Lib.hid (adTable_off q v l w hv hl hg)⟩
  clear hg hv hl
  go_enter Try.func33, Try.ntmps33
  go_wp2_with fail
  refine HP.out.mono ?_
  rintro e w1 ⟨v', rfl, hb1⟩
  go_wp2
  go_ret2
  exact ⟨rfl, hb1⟩
theorem impl_RowsOf_no (q : Int) (v : Value) (l : List Int) (w : World) (hv : Sl w v l) (hl : l.length ≤ 1048576) (hg : addL q l = false) :
    Calls Try.prog 34 #[.int .i64 q, v] w fun e w' => e = .returned (.tuple #[.slice none 0 0, .bool false]) ∧ Below w.heap.size w w' := by
  have HP := Lib.hid (validAdditive_no q v l w hv hl hg)
  clear hg hv hl
  go_enter Try.func34, Try.ntmps34
  go_wp2_with fail
  refine HP.out.mono ?_
  rintro e w1 ⟨rfl, hb1⟩
  have hz_hb1 := hb1.size; (try simp at hz_hb1)
  have HB1 := Lib.hid hb1; clear hb1
  go_wp2_with fail
  go_ret2
  have hb1 := HB1.out
  exact ⟨rfl, by (repeat' (first | (with_reducible assumption) | (with_reducible exact Below.refl _ _) | (with_reducible refine below_drewN ?_ _) | (with_reducible refine Below.drew ?_) | (with_reducible refine Below.alloc ?_ ?_ _) | (with_reducible refine Below.setCell ?_ ?_ _) | (with_reducible refine Below.trans ?_ (Below.mono (by assumption) ?_)) | (with_reducible exact Nat.le_refl _) | (with_reducible assumption) | omega | (simp; omega) | (simp; done)))⟩
set_option maxRecDepth 100000 in
set_option maxHeartbeats 4000000 in
theorem impl_RowsOf_yes (m : Nat) (v : Value) (l : List Int) (w : World) (h : isSz (m : Int) = true) (hv : Sl w v l) (hg : good (m : Int) l = true) (ha : adC m (fun i => l.getD i 0) 0 l.length = true) :
    Calls Try.prog 34 #[.int .i64 m, v] w fun e w' => ∃ v' X, e = .returned (.tuple #[v', .bool true]) ∧ RS w' w.heap.size v' (plN m) (rsF m (tabF (m : Int) (fun i => l.getD i 0) l.length)) X ∧ Below w.heap.size w w' := by
  have hq := isSz_le (m : Int) h
  have hlen := (good_parts hg).1
  have HP := Lib.hid (validAdditive_yes m v l w h hv hg ha)
  have HS := Lib.hid (fun v w (hs : Se w v (m : Int) (fun i => l.getD i 0) l.length) => rowsE m l.length v (fun i => l.getD i 0) w h hs (all_el h (good_parts hg).2) (by omega))
  clear hg hv h ha
  generalize rsF m (tabF (m : Int) (fun i => l.getD i 0) l.length) = F at *
  generalize (fun i => l.getD i 0) = f at *
  generalize l.length = n at *
  go_enter Try.func34, Try.ntmps34
  go_wp2_with fail
  refine HP.out.mono ?_
  rintro e w1 ⟨g, rfl, hg, hgl, he, hb1⟩
  have HE1 := Lib.hid he
  clear he
  have hz_hb1 := hb1.size; (try simp at hz_hb1)
  have HB1 := Lib.hid hb1; clear hb1
  go_wp2_with fail
  refine (HS.out (.slice (some ⟨g, 0, none⟩) n n) _ ⟨g, n, rfl, by simp; omega, HE1.out.below (B := w1.heap.size) (by (repeat' (first | (with_reducible assumption) | (with_reducible exact Below.refl _ _) | (with_reducible refine below_drewN ?_ _) | (with_reducible refine Below.drew ?_) | (with_reducible refine Below.alloc ?_ ?_ _) | (with_reducible refine Below.setCell ?_ ?_ _) | (with_reducible refine Below.trans ?_ (Below.mono (by assumption) ?_)) | (with_reducible exact Nat.le_refl _) | (with_reducible assumption) | omega | (simp; omega) | (simp; done)))) hgl⟩).mono ?_
  rintro e w2 ⟨v2, X2, rfl, hr2, hb2⟩
  have hz_hb2 := hb2.size; (try simp at hz_hb2)
  have HR2 := Lib.hid hr2
  have HB2 := Lib.hid hb2; clear hb2 hr2
  go_wp2
  go_ret2
  have hb1 := HB1.out
  have hb2 := HB2.out
  exact ⟨v2, X2, rfl, HR2.out.mono (by first | omega | (simp; done) | (simp; omega)), by (repeat' (first | (with_reducible assumption) | (with_reducible exact Below.refl _ _) | (with_reducible refine below_drewN ?_ _) | (with_reducible refine Below.drew ?_) | (with_reducible refine Below.alloc ?_ ?_ _) | (with_reducible refine Below.setCell ?_ ?_ _) | (with_reducible refine Below.trans ?_ (Below.mono (by assumption) ?_)) | (with_reducible exact Nat.le_refl _) | (with_reducible assumption) | omega | (simp; omega) | (simp; done)))⟩
set_option maxRecDepth 100000 in
set_option maxHeartbeats 4000000 in
theorem spec_RowsOf_yes (m : Nat) (v : Value) (l : List Int) (w : World) (h : isSz (m : Int) = true) (hv : Sl w v l) (hg : good (m : Int) l = true) (ha : adC m (fun i => l.getD i 0) 0 l.length = true) :
    Calls Try.prog 33 #[.int .i64 m, v] w fun e w' => ∃ v' X, e = .returned (.tuple #[v', .bool true]) ∧ RS w' w.heap.size v' (plN m) (rsF m (tabF (m : Int) (fun i => l.getD i 0) l.length)) X ∧ Below w.heap.size w w' := by
  obtain ⟨j0, hj, jz0, jz1, jz2⟩ := info_parts Try.infoR
  have hq := isSz_le (m : Int) h
  have hkb := plN_bd (m : Int) h
  have hp := pr_bd (m : Int) h
  have hpl : pl (m : Int) = ((plN (m : Int) : Nat) : Int) := rfl
  have HP := Lib.hid (adTable_on m v l w h hv hg ha)
  have HPR := Lib.hid (fun w => fdPrime_any (m : Int) w h)
  have HTE := Lib.hid (fun i (hi : i < m) => tab_el (k := l.length) h (all_el h (good_parts hg).2) i hi)
  have HPL := Lib.hid (pp_lt (m : Int) h)
  have HS := Lib.hid (ppf_succ h)
  have HB := Lib.hid (ppf_bd h)
  have hp1 : ppf (m : Int) 0 = 1 := by show ((1 : Nat) : Int) = 1; rfl
  have HDG := Lib.hid (fun (i : Nat) (hi : i < m) w => fdDigits_any (m : Int) ((tabF (m : Int) (fun i => l.getD i 0) l.length) i) w h (HTE.out i hi).1 (HTE.out i hi).2)
  have HRF : Hid (∀ i, rsF m (tabF (m : Int) (fun i => l.getD i 0) l.length) i = digs (plN m) (pr m) ((tabF (m : Int) (fun i => l.getD i 0) l.length) (pp m i))) := Lib.hid fun _ => rfl
  clear hg hv h ha
  generalize rsF m (tabF (m : Int) (fun i => l.getD i 0) l.length) = F at *
  generalize (tabF (m : Int) (fun i => l.getD i 0) l.length) = t at *
  generalize plN (m : Int) = k at *
  go_enter Try.func33, Try.ntmps33
  go_wp2_with fail
  refine HP.out.mono ?_
  rintro e w1 ⟨v1, rfl, hr1, hb1⟩
  have hz1 := hb1.size
  obtain ⟨g, cp, hv1, hgB, hgl⟩ := hr1.form (by rw [fl_len]; omega)
  rw [fl_len] at hv1
  subst hv1
  have HC1 : Hid (∀ i, i < m → w1.cell? ⟨g, i, none⟩ = some (.int .i64 (t i))) := Lib.hid fun i hi => by
    have := Row.cell (l := fl t m) (by rw [fl_len]; exact hr1) i (by rw [fl_len]; exact hi)
    rwa [fl_get _ _ _ hi] at this
  have HB1 := Lib.hid hb1; clear hb1 hr1
  go_wp2_with fail
  refine (HPR.out _).mono ?_
  rintro e _ ⟨rfl, rfl⟩
  rw [hpl]
  clear hpl
  go_wp2_with fail
  go_loopw [10, 11, 12] (fun vo vp vi wr => ∃ i : Nat, i ≤ k ∧ vi = .int .i64 i ∧ vp = .int .i64 (ppf m i) ∧ (∃ X, RS wr w1.heap.size vo i F X) ∧ Below w1.heap.size w1 wr) (fun _ _ vi _ => k - (intOf vi).toNat)
  case atStart => exact ⟨0, Nat.zero_le _, rfl, by rw [hp1], ⟨fun _ => .slice none 0 0, RS.nil _ _ _ _⟩, Below.refl _ _⟩
  case round =>
    obtain ⟨i, hik, rfl, rfl, ⟨X, hr⟩, hbw⟩ := hrel
    have HR := Lib.hid hr; clear hr
    have HBW := Lib.hid hbw; clear hbw
    have hz := HBW.out.size
    by_cases hlt : i < k
    · have hPm : pp m i < m := by have := (HPL.out i hlt).2; omega
      have hc := (HBW.out.cell (p := ⟨g, pp m i, none⟩) hgl).trans (HC1.out _ hPm)
      have b2 := HB.out (i + 1) (by omega)
      have s1 := HS.out i
      have HD' := Lib.hid (fun w => HDG.out (pp m i) hPm w)
      have HFi := Lib.hid (HRF.out i)
      rw [show ppf (m : Int) i = ((pp m i : Nat) : Int) from rfl] at s1 ⊢
      obtain ⟨y, hy⟩ : ∃ y, ppf (m : Int) (i + 1) = y := ⟨_, rfl⟩
      rw [hy] at b2 s1
      have HY := Lib.hid hy
      clear hy
      generalize pp m i = P at *
      generalize t P = x at *
      rw [← HFi.out] at HD'
      clear HFi
      obtain ⟨l, hl⟩ : ∃ l, F i = l := ⟨_, rfl⟩
      rw [hl] at HD'
      have HL := Lib.hid hl
      clear hl
      have h1 : IntKind.i64.wrap y = y := IntWalk.i64_in _ (by omega)
      have hgr : g < wr.heap.size := by omega
      go_wp2_with fail
      refine (HD'.out _).mono ?_
      rintro e w2 ⟨u, rfl, hu, hb2⟩
      have hz2 := hb2.size
      have HR2 := Lib.hid (HR.out.below hb2)
      have HU2 := Lib.hid hu
      have HB2 : Hid (Below w1.heap.size w1 w2) := Lib.hid (HBW.out.trans (hb2.mono hz))
      obtain ⟨a2, cp2, hu2⟩ := hu.sl.form
      subst hu2
      clear hu hb2
      obtain ⟨av, cpv, hvv⟩ := HR2.out.slc
      subst hvv
      go_wp2_with (at_builtin; refine wpList_append_own _ rfl _ _ 37 rfl w1.heap.size 25 j0 (.slice none 0 0) 1 24 Try.underlying37 hj jz0 jz1 jz2 rfl (by decide) _ _ _ rfl (World.ownsRow.alloc HR2.out.outer _) ⟨w2.heap.size, 0, none⟩ 1 1 [.slice a2 l.length cp2] rfl rfl ?c1 ?c2 ?c3 ?c4 ?c5 ?_)
      case c1 => exact cell_one_new _ _ _
      case c2 => first | rfl | (intro u hu; simp at hu; subst hu; rfl)
      case c3 => unfold maxLen; omega
      case c4 => omega
      case c5 => first | omega | (simp; omega)
      intro v' w6 hown hgrow _
      have hrs := (HR2.out.alloc _).appended hgrow hown ((HU2.out.alloc _).mono (by omega)) (fun i' hi' g' hg' e => by
        have h1 := (HR.out.ltX i' hi' g' hg').2
        have h2 := (HU2.out.lt g' e).1
        omega)
      have HRS := Lib.hid (hrs.congr (F' := F) (fun j hj => by
        by_cases e : j = i
        · subst e
          rw [set1_at]
          exact HL.out.symm
        · rw [set1_ne _ _ _ _ e]))
      have hbA : Below w1.heap.size w1 (w2.alloc (.cells #[.slice a2 l.length cp2] 25)) := HB2.out.alloc (by omega) _
      have HB6 := Lib.hid (hbA.grown hgrow (by simp; omega) (fun g hg => (HR2.out.lt g hg).1))
      clear hown hgrow hbA hrs
      go_wp2
      go_roundw
      case rel => exact ⟨i + 1, by omega, by go_num, by rw [HY.out], ⟨_, HRS.out⟩, HB6.out⟩
      case measure => simp [intOf]; omega
    · obtain rfl : k = i := by omega
      obtain ⟨av, cpv, hvv⟩ := HR.out.slc
      subst hvv
      go_wp2
      go_ret2
      exact ⟨_, X, rfl, HR.out.mono hz1, HB1.out.trans (HBW.out.mono hz1)⟩
theorem key_RowsOf (q : Int) (l_f : List Int) (b_f : l_f.length ≤ 1048576) : ∃ (n : Nat) (F : Nat → List Int) (o : Bool), n ≤ 1048576 ∧ ofs F n ≤ 900 ∧ (∀ (w : World) (v_f : Value) (_ : Sl w v_f l_f), Calls Try.prog 33 #[.int .i64 q, v_f] w fun e w' => ∃ v X, e = .returned (.tuple #[v, .bool o]) ∧ RS w' w.heap.size v n F X ∧ Below w.heap.size w w') ∧
      (∀ (w : World) (v_f : Value) (_ : Sl w v_f l_f), Calls Try.prog 34 #[.int .i64 q, v_f] w fun e w' => ∃ v X, e = .returned (.tuple #[v, .bool o]) ∧ RS w' w.heap.size v n F X ∧ Below w.heap.size w w') := by
  cases h : addL q l_f with
  | false => exact ⟨0, fun _ => [], false, by omega, by simp [ofs], fun w v hv => (spec_RowsOf_no q v l_f w hv b_f h).mono fun _ _ ⟨he, hb⟩ => ⟨_, fun _ => .slice none 0 0, he, RS.nil _ _ _ _, hb⟩, fun w v hv => (impl_RowsOf_no q v l_f w hv b_f h).mono fun _ _ ⟨he, hb⟩ => ⟨_, fun _ => .slice none 0 0, he, RS.nil _ _ _ _, hb⟩⟩
  | true =>
    obtain ⟨m, rfl, h1, h2, h3⟩ := addL_parts h
    have hkb := plN_bd _ h1
    have hob := ofs_bd (F := rsF m (tabF (m : Int) (fun i => l_f.getD i 0) l_f.length)) (c := 4) (fun i => by rw [rsF_len]; omega) (plN m)
    exact ⟨_, _, true, by omega, by omega, fun w v hv => spec_RowsOf_yes m v l_f w h1 hv h2 h3, fun w v hv => impl_RowsOf_yes m v l_f w h1 hv h2 h3⟩
set_option maxRecDepth 100000 in
set_option maxHeartbeats 4000000 in
/-- laws.FnExactRowsOf. -/
theorem walk_FnExactRowsOf (q : Int) (a_f : Option Addr) (n_f c_f : Nat) (z_f : List Int) (w : World) (_h_q : (Lit.int .i64 q).wf = true) (h_f : IsRow .i64 w a_f n_f c_f z_f) :
    Calls Try.prog 11 #[.int .i64 q, .slice a_f n_f c_f] w fun e w' => e = .returned (.bool true) ∧ Below w.heap.size w w' := by
  clear _h_q
  obtain ⟨hs_f, hl_f, _⟩ := h_f.sl
  generalize z_f.take n_f = l_f at *
  clear h_f
  subst hl_f
  by_cases b_f : l_f.length ≤ 1048576
  rotate_left
  · have hn_f : (1048576 : Int) < (l_f.length : Int) := by omega
    go_enter Try.func11, Try.ntmps11
    go_wp2
    go_ret
    exact ⟨rfl, Below.refl _ _⟩
  have hn_f : ¬ (1048576 : Int) < (l_f.length : Int) := by omega
  obtain ⟨n, F, o, hn, hl, k1, k2⟩ := key_RowsOf q l_f b_f
  have K1 := Lib.hid k1; clear k1
  have K2 := Lib.hid k2; clear k2
  have HS_f := Lib.hid hs_f; clear hs_f
  have HB0 : Hid (Below w.heap.size w w) := Lib.hid (Below.refl _ _)
  go_enter Try.func11, Try.ntmps11
  go_wp2_with fail
  refine (toIntS_any _ l_f _ (HS_f.out.below HB0.out (Nat.le_refl _)) b_f).mono ?_
  rintro e w1 ⟨v_s_f, rfl, hrw1, hbw1⟩
  have hzw1 : w.heap.size ≤ w1.heap.size := hbw1.size
  have HBw1 : Hid (Below w.heap.size w w1) := Lib.hid (HB0.out.trans (hbw1.mono HB0.out.size))
  have hww1 := HBw1.out.size
  clear hbw1 HB0
  have R_s_f_w1 := Lib.hid hrw1; clear hrw1
  have lt_s_f : Hid (∀ g, v_s_f.ownBlock = some g → w.heap.size ≤ g ∧ g < w1.heap.size) := Lib.hid R_s_f_w1.out.lt
  go_wp2_with fail
  refine (K1.out _ v_s_f R_s_f_w1.out.sl).mono ?_
  rintro e w2 ⟨v_sp, X_sp, rfl, hrw2, hbw2⟩
  have hzw2 : w1.heap.size ≤ w2.heap.size := hbw2.size
  have R_s_f_w2 := Lib.hid (R_s_f_w1.out.below hbw2)
  clear R_s_f_w1
  have HBw2 : Hid (Below w.heap.size w w2) := Lib.hid (HBw1.out.trans (hbw2.mono HBw1.out.size))
  have hww2 := HBw2.out.size
  clear hbw2 HBw1
  have R_sp_w2 := Lib.hid hrw2; clear hrw2
  have lt_sp := Lib.hid R_sp_w2.out.lts
  clear R_s_f_w2 lt_s_f
  go_wp2_with fail
  refine (toIntS_any _ l_f _ (HS_f.out.below HBw2.out (Nat.le_refl _)) b_f).mono ?_
  rintro e w3 ⟨v_x_f, rfl, hrw3, hbw3⟩
  have hzw3 : w2.heap.size ≤ w3.heap.size := hbw3.size
  have R_sp_w3 := Lib.hid (R_sp_w2.out.below hbw3)
  clear R_sp_w2
  have HBw3 : Hid (Below w.heap.size w w3) := Lib.hid (HBw2.out.trans (hbw3.mono HBw2.out.size))
  have hww3 := HBw3.out.size
  clear hbw3 HBw2
  have R_x_f_w3 := Lib.hid hrw3; clear hrw3
  have lt_x_f : Hid (∀ g, v_x_f.ownBlock = some g → w2.heap.size ≤ g ∧ g < w3.heap.size) := Lib.hid R_x_f_w3.out.lt
  go_wp2_with fail
  refine (K2.out _ v_x_f R_x_f_w3.out.sl).mono ?_
  rintro e w4 ⟨v_im, X_im, rfl, hrw4, hbw4⟩
  have hzw4 : w3.heap.size ≤ w4.heap.size := hbw4.size
  have R_sp_w4 := Lib.hid (R_sp_w3.out.below hbw4)
  clear R_sp_w3
  have R_x_f_w4 := Lib.hid (R_x_f_w3.out.below hbw4)
  clear R_x_f_w3
  have HBw4 : Hid (Below w.heap.size w w4) := Lib.hid (HBw3.out.trans (hbw4.mono HBw3.out.size))
  have hww4 := HBw4.out.size
  clear hbw4 HBw3
  have R_im_w4 := Lib.hid hrw4; clear hrw4
  have lt_im := Lib.hid R_im_w4.out.lts
  go_wp2_with fail
  refine (eqSS_same v_im v_sp n F X_im X_sp _ _ _ R_im_w4.out R_sp_w4.out (by omega) (by omega)).mono ?_
  rintro e w5 ⟨rfl, hbw5⟩
  have hzw5 : w4.heap.size ≤ w5.heap.size := hbw5.size
  have R_sp_w5 := Lib.hid (R_sp_w4.out.below hbw5)
  clear R_sp_w4
  have R_x_f_w5 := Lib.hid (R_x_f_w4.out.below hbw5)
  clear R_x_f_w4
  have R_im_w5 := Lib.hid (R_im_w4.out.below hbw5)
  clear R_im_w4
  have HBw5 : Hid (Below w.heap.size w w5) := Lib.hid (HBw4.out.trans (hbw5.mono HBw4.out.size))
  have hww5 := HBw5.out.size
  clear hbw5 HBw4
  go_wp2_with fail
  refine (toIntS_any _ l_f _ (HS_f.out.below HBw5.out (Nat.le_refl _)) b_f).mono ?_
  rintro e w6 ⟨v_y_f, rfl, hrw6, hbw6⟩
  have hzw6 : w5.heap.size ≤ w6.heap.size := hbw6.size
  have R_sp_w6 := Lib.hid (R_sp_w5.out.below hbw6)
  clear R_sp_w5
  have R_x_f_w6 := Lib.hid (R_x_f_w5.out.below hbw6)
  clear R_x_f_w5
  have R_im_w6 := Lib.hid (R_im_w5.out.below hbw6)
  clear R_im_w5
  have HBw6 : Hid (Below w.heap.size w w6) := Lib.hid (HBw5.out.trans (hbw6.mono HBw5.out.size))
  have hww6 := HBw6.out.size
  clear hbw6 HBw5
  have R_y_f_w6 := Lib.hid hrw6; clear hrw6
  have lt_y_f : Hid (∀ g, v_y_f.ownBlock = some g → w5.heap.size ≤ g ∧ g < w6.heap.size) := Lib.hid R_y_f_w6.out.lt
  go_wp2_with fail
  refine (eq_same v_x_f v_y_f l_f _ _ _ R_x_f_w6.out R_y_f_w6.out (by omega)).mono ?_
  rintro e w7 ⟨rfl, hbw7⟩
  have hzw7 : w6.heap.size ≤ w7.heap.size := hbw7.size
  have R_sp_w7 := Lib.hid (R_sp_w6.out.below hbw7)
  clear R_sp_w6
  have R_x_f_w7 := Lib.hid (R_x_f_w6.out.below hbw7)
  clear R_x_f_w6
  have R_im_w7 := Lib.hid (R_im_w6.out.below hbw7)
  clear R_im_w6
  have R_y_f_w7 := Lib.hid (R_y_f_w6.out.below hbw7)
  clear R_y_f_w6
  have HBw7 : Hid (Below w.heap.size w w7) := Lib.hid (HBw6.out.trans (hbw7.mono HBw6.out.size))
  have hww7 := HBw7.out.size
  clear hbw7 HBw6
  clear R_y_f_w7 lt_y_f
  go_wp2_with fail
  refine (mark_any v_x_f l_f _ (1) _ R_x_f_w7.out (by omega) (by omega) (by omega)).mono ?_
  rintro e w8 ⟨rfl, hrw8, hgw8⟩
  have hzw8 : w7.heap.size ≤ w8.heap.size := hgw8.size
  have R_sp_w8 := Lib.hid (R_sp_w7.out.keep (w' := w8) (fun g hg => hgw8.block g (R_sp_w7.out.lt g hg).2 fun e => by have h1 := lt_sp.out.1 g hg; have h2 := lt_x_f.out g e.symm; omega) (fun i hi g hg => hgw8.block g ((R_sp_w7.out.inner i hi).lt g hg).2 fun e => by have h1 := lt_sp.out.2 i hi g hg; have h2 := lt_x_f.out g e.symm; omega))
  clear R_sp_w7
  have R_im_w8 := Lib.hid (R_im_w7.out.keep (w' := w8) (fun g hg => hgw8.block g (R_im_w7.out.lt g hg).2 fun e => by have h1 := lt_im.out.1 g hg; have h2 := lt_x_f.out g e.symm; omega) (fun i hi g hg => hgw8.block g ((R_im_w7.out.inner i hi).lt g hg).2 fun e => by have h1 := lt_im.out.2 i hi g hg; have h2 := lt_x_f.out g e.symm; omega))
  clear R_im_w7
  have HBw8 : Hid (Below w.heap.size w w8) := Lib.hid (Below.grown HBw7.out hgw8 (by omega) (fun g e => by have h2 := lt_x_f.out g e; omega))
  have hww8 := HBw8.out.size
  have R_x_f_w8 := Lib.hid hrw8
  clear hrw8 hgw8 HBw7 R_x_f_w7
  clear R_x_f_w8 lt_x_f
  have hpos : ¬ (1 + (l_f.length : Int)) < (0 : Int) := by omega
  go_wp2_with fail
  refine (eqSS_same v_im v_sp n F X_im X_sp _ _ _ R_im_w8.out R_sp_w8.out (by omega) (by omega)).mono ?_
  rintro e w9 ⟨rfl, hbw9⟩
  have hzw9 : w8.heap.size ≤ w9.heap.size := hbw9.size
  have R_sp_w9 := Lib.hid (R_sp_w8.out.below hbw9)
  clear R_sp_w8
  have R_im_w9 := Lib.hid (R_im_w8.out.below hbw9)
  clear R_im_w8
  have HBw9 : Hid (Below w.heap.size w w9) := Lib.hid (HBw8.out.trans (hbw9.mono HBw8.out.size))
  have hww9 := HBw9.out.size
  clear hbw9 HBw8
  go_wp2_with fail
  refine (markSS_any v_im n F X_im _ 1 _ R_im_w9.out (by omega) (by omega) (by omega) (by omega) (by omega)).mono ?_
  rintro e w10 ⟨rfl, hrw10, hbw10⟩
  have hzw10 : w9.heap.size ≤ w10.heap.size := hbw10.size
  have R_sp_w10 := Lib.hid (R_sp_w9.out.keep (w' := w10) (fun g hg => hbw10.block g (by have h1 := lt_sp.out.1 g hg; omega)) (fun i hi g hg => hbw10.block g (by have h1 := lt_sp.out.2 i hi g hg; omega)))
  clear R_sp_w9
  have HBw10 : Hid (Below w.heap.size w w10) := Lib.hid (HBw9.out.trans (hbw10.mono (by omega)))
  have hww10 := HBw10.out.size
  have R_im_w10 := Lib.hid hrw10
  clear hrw10 hbw10 HBw9 R_im_w9
  go_wp2_with fail
  refine (heldSS_any v_im n F X_im _ 1 _ R_im_w10.out (by omega) (by omega) (by omega) (by omega)).mono ?_
  rintro e wx1 ⟨rfl, rfl⟩
  go_wp2_with fail
  refine (toIntS_any _ l_f _ (HS_f.out.below HBw10.out (Nat.le_refl _)) b_f).mono ?_
  rintro e w11 ⟨v_t_f, rfl, hrw11, hbw11⟩
  have hzw11 : w10.heap.size ≤ w11.heap.size := hbw11.size
  have R_sp_w11 := Lib.hid (R_sp_w10.out.below hbw11)
  clear R_sp_w10
  have R_im_w11 := Lib.hid (R_im_w10.out.below hbw11)
  clear R_im_w10
  have HBw11 : Hid (Below w.heap.size w w11) := Lib.hid (HBw10.out.trans (hbw11.mono HBw10.out.size))
  have hww11 := HBw11.out.size
  clear hbw11 HBw10
  have R_t_f_w11 := Lib.hid hrw11; clear hrw11
  have lt_t_f : Hid (∀ g, v_t_f.ownBlock = some g → w10.heap.size ≤ g ∧ g < w11.heap.size) := Lib.hid R_t_f_w11.out.lt
  go_wp2_with fail
  refine (K2.out _ v_t_f R_t_f_w11.out.sl).mono ?_
  rintro e w12 ⟨v_im2, X_im2, rfl, hrw12, hbw12⟩
  have hzw12 : w11.heap.size ≤ w12.heap.size := hbw12.size
  have R_sp_w12 := Lib.hid (R_sp_w11.out.below hbw12)
  clear R_sp_w11
  have R_im_w12 := Lib.hid (R_im_w11.out.below hbw12)
  clear R_im_w11
  have R_t_f_w12 := Lib.hid (R_t_f_w11.out.below hbw12)
  clear R_t_f_w11
  have HBw12 : Hid (Below w.heap.size w w12) := Lib.hid (HBw11.out.trans (hbw12.mono HBw11.out.size))
  have hww12 := HBw12.out.size
  clear hbw12 HBw11
  have R_im2_w12 := Lib.hid hrw12; clear hrw12
  have lt_im2 := Lib.hid R_im2_w12.out.lts
  clear R_t_f_w12 lt_t_f
  go_wp2_with fail
  refine (eqSS_same v_im2 v_sp n F X_im2 X_sp _ _ _ R_im2_w12.out R_sp_w12.out (by omega) (by omega)).mono ?_
  rintro e w13 ⟨rfl, hbw13⟩
  have hzw13 : w12.heap.size ≤ w13.heap.size := hbw13.size
  have R_sp_w13 := Lib.hid (R_sp_w12.out.below hbw13)
  clear R_sp_w12
  have R_im_w13 := Lib.hid (R_im_w12.out.below hbw13)
  clear R_im_w12
  have R_im2_w13 := Lib.hid (R_im2_w12.out.below hbw13)
  clear R_im2_w12
  have HBw13 : Hid (Below w.heap.size w w13) := Lib.hid (HBw12.out.trans (hbw13.mono HBw12.out.size))
  have hww13 := HBw13.out.size
  clear hbw13 HBw12
  go_wp2_with fail
  refine (heldSS_any v_im n F X_im _ 1 _ R_im_w13.out (by omega) (by omega) (by omega) (by omega)).mono ?_
  rintro e wx2 ⟨rfl, rfl⟩
  go_wp2
  go_ret
  exact ⟨rfl, HBw13.out⟩
end Go.Proofs.Ytgndlpdcebmgmab
