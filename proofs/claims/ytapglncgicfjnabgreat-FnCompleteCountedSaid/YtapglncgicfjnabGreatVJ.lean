/- impl.mapped at continued, slices.Concat of slices of lists, impl.field.completeTables, by contracts. -/
import Derived.Test.YtapglncgicfjnabGreatVI
import Derived.Test.YtapglncgicfjnabGreatRM
import Derived.Test.YtapglncgicfjnabGreatKJ
import Derived.Deep.RegionHeld3
import Derived.Deep.RegionLaw
import Derived.Lib.AppendZerosOnto
import Derived.Lib.AppendZeros
import Derived.Laws.AppendOwnNone
namespace Go.Proofs.YtapglncgicfjnabGreat
open Go.RowKit
theorem Tryz.infoEss : (Tryz.prog.info? 113).map (fun i => (i.zero, i.size, i.bytes)) = some (some (.slice none 0 0), 1, 24) := by kernel_rfl
set_option maxRecDepth 100000 in
set_option maxHeartbeats 4000000 in
/-- The closure of impl.mapped, at continued. -/
theorem ctClo (m i n g cap A0 A1 : Nat) (x : Value) (t : List Int) (w : World) (h : isSz (m : Int) = true) (hi : i < n) (c0 : w.cell? ⟨A0, 0, none⟩ = some (.func (.func 221) #[fdE (m : Int)] #[])) (c1 : w.cell? ⟨A1, 0, none⟩ = some (.slice (some ⟨g, 0, none⟩) n cap)) (c2 : w.cell? ⟨g, i, none⟩ = some x)
    (hx : HE w m x t) (hb : Bgn m t) (hl : t.length < m) :
    Calls Tryz.prog 228 #[.int .i64 i, .pointer (some ⟨A0, 0, none⟩), .pointer (some ⟨A1, 0, none⟩)] w fun e w' => ∃ v' X, e = .returned v' ∧ TL w' w.heap.size m v' (nx m t m) X ∧ Below w.heap.size w w' := by
  have HC := Lib.hid (fun w' (hbw : Below w.heap.size w w') => continuedE m x t w' h (hx.below hbw (Nat.le_refl _)) hb hl)
  have l0 := World.block_lt_of_cell? w _ c0
  have l1 := World.block_lt_of_cell? w _ c1
  have l2 := World.block_lt_of_cell? w _ c2
  simp only at l0 l1 l2
  obtain ⟨a, c, hxe⟩ : ∃ a c, x = .slice a t.length c := by obtain ⟨g, cap, cur, e, _⟩ := hx; exact ⟨_, _, e⟩
  subst hxe
  have hi0 : (0 : Int) ≤ (i : Int) := by omega
  have hi1 : (i : Int) < (n : Int) := by omega
  clear hx hb hl h
  generalize nx m t m = N at *
  generalize t.length = L at *
  go_enter Tryz.func228, Tryz.ntmps228
  go_wp2_with fail
  go_region_with (go_at_call 221; refine (HC.out _ (by (repeat' (first | (with_reducible assumption) | (with_reducible exact Below.refl _ _) | (with_reducible refine below_drewN ?_ _) | (with_reducible refine Below.drew ?_) | (with_reducible refine Below.alloc ?_ ?_ _) | (with_reducible refine Below.setCell ?_ ?_ _) | (with_reducible refine Below.trans ?_ (Below.mono (by assumption) ?_)) | (with_reducible exact Nat.le_refl _) | (with_reducible assumption) | omega | (simp; omega) | (simp; done))))).mono ?_; rintro e w1 ⟨v1, X1, rfl, ht1, hb1⟩; have HT1 := Lib.hid ht1; clear ht1; obtain ⟨hc1, hf1⟩ := bcell hb1; (try simp only [World.size_drew] at hc1 hf1); have hz1 := hb1.size; (try simp at hz1); have HB1 := Lib.hid hb1; clear hb1)
  all_goals
    go_wp2
    go_ret
    have hb1 := HB1.out
    exact ⟨_, X1, rfl, HT1.out.mono (by first | omega | (simp; done) | (simp; omega)), by (repeat' (first | (with_reducible assumption) | (with_reducible exact Below.refl _ _) | (with_reducible refine below_drewN ?_ _) | (with_reducible refine Below.drew ?_) | (with_reducible refine Below.alloc ?_ ?_ _) | (with_reducible refine Below.setCell ?_ ?_ _) | (with_reducible refine Below.trans ?_ (Below.mono (by assumption) ?_)) | (with_reducible exact Nat.le_refl _) | (with_reducible assumption) | omega | (simp; omega) | (simp; done)))⟩
theorem TL.other {w : World} {B B' m n g i : Nat} {v v3 u : Value} {T : List (List Int)} {X : Nat → Value} {xs : List Value} (h : TL w B m v T X) (ho : w.ownsRow B' 113 1 v3 n xs) (hg : v3.ownBlock = some g) : TL (w.setCell ⟨g, i, none⟩ u) B m v T X := by
  refine h.keep (fun g' hg' => heap_setCell_other _ _ _ _ fun e => ?_) fun j hj g' hg' => heap_setCell_other _ _ _ _ fun e => ?_
  · have e : g' = g := e
    subst e
    rcases h.outer.2 with ⟨rfl, _⟩ | ⟨g1, c1, cur1, rfl, _, h1, _⟩
    · simp [Value.ownBlock] at hg'
    · rcases ho.2 with ⟨rfl, _⟩ | ⟨g2, c2, cur2, rfl, _, h2, _⟩
      · simp [Value.ownBlock] at hg
      · simp [Value.ownBlock] at hg hg'
        subst hg
        subst hg'
        rw [h1] at h2
        simp at h2
  · have e : g' = g := e
    subst e
    obtain ⟨g1, c1, cur1, he1, h1, _⟩ := h.inner j hj
    rw [he1] at hg'
    rcases ho.2 with ⟨rfl, _⟩ | ⟨g2, c2, cur2, rfl, _, h2, _⟩
    · simp [Value.ownBlock] at hg
    · simp [Value.ownBlock] at hg hg'
      subst hg
      subst hg'
      rw [h1] at h2
      simp at h2
/-- Slices of slices of lists, k of them told. -/
structure T3 (w : World) (B m : Nat) (v : Value) (n k : Nat) (F : Nat → List (List Int)) (Z : Nat → Value) : Prop where
  outer : w.ownsRow B 113 1 v n (flv Z n)
  inner : ∀ i, i < k → ∃ Y, TL w B m (Z i) (F i) Y
theorem T3.lt {w : World} {B m n k : Nat} {v : Value} {F : Nat → List (List Int)} {Z : Nat → Value} (h : T3 w B m v n k F Z) : ∀ g, v.ownBlock = some g → B ≤ g ∧ g < w.heap.size := World.ownsRow.lt h.outer
theorem T3.below {w w' : World} {B m n k : Nat} {v : Value} {F : Nat → List (List Int)} {Z : Nat → Value} (h : T3 w B m v n k F Z) (hb : Below w.heap.size w w') : T3 w' B m v n k F Z :=
  ⟨owns_keptE h.outer fun g hg => hb.block g (h.lt g hg).2, fun i hi => by obtain ⟨Y, hY⟩ := h.inner i hi; exact ⟨Y, hY.below hb⟩⟩
theorem T3.mono {w : World} {B B' m n k : Nat} {v : Value} {F : Nat → List (List Int)} {Z : Nat → Value} (h : T3 w B m v n k F Z) (hB : B' ≤ B) : T3 w B' m v n k F Z := by
  refine ⟨⟨h.outer.1, ?_⟩, fun i hi => by obtain ⟨Y, hY⟩ := h.inner i hi; exact ⟨Y, hY.mono hB⟩⟩
  rcases h.outer.2 with hn | ⟨g, cap, cur, rfl, hb, rest⟩
  · exact .inl hn
  · exact .inr ⟨g, cap, cur, rfl, by omega, rest⟩
theorem T3.how {w : World} {B m n k : Nat} {v : Value} {F : Nat → List (List Int)} {Z : Nat → Value} (h : T3 w B m v n k F Z) (hn : 0 < n) : ∃ g cap, v = .slice (some ⟨g, 0, none⟩) n cap ∧ B ≤ g ∧ g < w.heap.size ∧ ∀ i, i < n → w.cell? ⟨g, i, none⟩ = some (Z i) := by
  rcases h.outer.2 with ⟨e, h0⟩ | ⟨g, cap, cur, rfl, hb, hgg, rest⟩
  · omega
  · refine ⟨g, cap, rfl, hb, (Array.getElem?_eq_some_iff.1 hgg).1, fun i hi => ?_⟩
    have := World.ownsRow.cells h.outer (g := g) rfl i (Z i) (flv_get Z _ i hi)
    have hadd : (⟨g, 0, none⟩ : Addr).add i = ⟨g, i, none⟩ := by unfold Addr.add; split <;> simp_all
    rwa [hadd] at this
theorem T3.made {w : World} {B m g n : Nat} (F : Nat → List (List Int)) (h : w.ownsRow B 113 1 (.slice (some ⟨g, 0, none⟩) n n) n (madeCells #[Value.slice none 0 0] n).toList) : T3 w B m (.slice (some ⟨g, 0, none⟩) n n) n 0 F (fun _ => .slice none 0 0) := by
  refine ⟨?_, fun i hi => absurd hi (Nat.not_lt_zero _)⟩
  rw [toList_madeCells_one] at h
  have e : flv (fun _ => Value.slice none 0 0) n = List.replicate n (Value.slice none 0 0) := by
    refine List.ext_getElem (by simp [flv]) fun j h1 h2 => ?_
    simp [flv]
  rw [e]
  exact h
theorem T3.stored {w : World} {B m g n cap k : Nat} {u : Value} {F : Nat → List (List Int)} {Z Y : Nat → Value} (h : T3 w B m (.slice (some ⟨g, 0, none⟩) n cap) n k F Z) (hu : TL w B m u (F k) Y) : T3 (w.setCell ⟨g, k, none⟩ u) B m (.slice (some ⟨g, 0, none⟩) n cap) n (k + 1) F (set1 Z k u) := by
  refine ⟨?_, fun j hj => ?_⟩
  · rw [← flv_set]
    exact (World.ownsRow.stored h.outer k u).1
  · by_cases e : j = k
    · subst e
      rw [set1_at]
      exact ⟨Y, hu.other h.outer rfl⟩
    · rw [set1_ne _ _ _ _ e]
      obtain ⟨Y', hY'⟩ := h.inner j (by omega)
      exact ⟨Y', hY'.other h.outer rfl⟩
theorem T3.frozen {w : World} {B m g n cap k : Nat} {F : Nat → List (List Int)} {Z : Nat → Value} (h : T3 w B m (.slice (some ⟨g, 0, none⟩) n cap) n k F Z) (i : Nat) : w.frozen? ⟨g, i, none⟩ = false := World.ownsRow.frozenAt h.outer i
set_option maxRecDepth 100000 in
set_option maxHeartbeats 4000000 in
/-- impl.listOf at slices of lists. -/
theorem listOf_3 (m n : Nat) (F : Nat → List (List Int)) (A0 A1 : Nat) (w : World) (hn : n ≤ 16777216) (HX : ∀ (i : Nat) w', i < n → Below w.heap.size w w' → Calls Tryz.prog 228 #[.int .i64 i, .pointer (some ⟨A0, 0, none⟩), .pointer (some ⟨A1, 0, none⟩)] w' fun e w'' => ∃ u Y, e = .returned u ∧ TL w'' w'.heap.size m u (F i) Y ∧ Below w'.heap.size w' w'') :
    Calls Tryz.prog 227 #[.int .i64 n, .func (.func 228) #[] #[.pointer (some ⟨A0, 0, none⟩), .pointer (some ⟨A1, 0, none⟩)]] w fun e w' => ∃ v Z, e = .returned v ∧ T3 w' w.heap.size m v n n F Z ∧ Below w.heap.size w w' := by
  obtain ⟨j0, hj, jz0, jz1, jz2⟩ := info_parts Tryz.infoEss
  have HXX := Lib.hid HX; clear HX
  go_enter Tryz.func227, Tryz.ntmps227
  go_wp2_with (at_make; go_must (refine wpList_make_full _ rfl _ _ 149 rfl w.heap.size 113 j0 (.slice none 0 0) 1 Tryz.underlying149 hj jz0 jz1 .i64 .i64 _ _ n rfl rfl rfl rfl ?c3 ?c4 ?c5 ?_))
  case c3 => rw [jz2]; omega
  case c4 => unfold maxLen; omega
  case c5 => simp
  intro w1 hown hgrow
  have HR1 := Lib.hid (T3.made (m := m) F hown)
  have hb : Below w.heap.size w w1 := (Below.refl _ _).grown hgrow (Nat.le_refl _) (fun k hk => by cases hk)
  have HW1 := Lib.hid hb
  have hgl1 : w.heap.size < w1.heap.size := (HR1.out.lt w.heap.size rfl).2
  clear hown hgrow hb
  go_wp2_with fail
  go_loopw [11] (fun vi wr => ∃ i : Nat, i ≤ n ∧ vi = .int .i64 i ∧ (∃ Z, T3 wr w.heap.size m (.slice (some ⟨w.heap.size, 0, none⟩) n n) n i F Z) ∧ w.heap.size < wr.heap.size ∧ Below w.heap.size w wr) (fun vi _ => n - (intOf vi).toNat)
  case atStart => exact ⟨0, Nat.zero_le _, rfl, ⟨_, HR1.out⟩, hgl1, HW1.out⟩
  case round =>
    obtain ⟨i, hi, rfl, ⟨Z, hr⟩, hgl, hb⟩ := hrel
    have HR := Lib.hid hr; clear hr
    have HB := Lib.hid hb; clear hb
    by_cases hlt : i < n
    · have HX' := Lib.hid (HXX.out i _ hlt HB.out)
      go_wp2_with fail
      refine HX'.out.mono ?_
      rintro e w2 ⟨u, Y, rfl, hu, hb2⟩
      have hr2 := HR.out.below hb2
      have HB2 := Lib.hid (HB.out.trans (hb2.mono HB.out.size))
      have hz2 := hb2.size
      obtain ⟨g', cp', hv', _, _, hcx⟩ := hr2.how (by omega)
      cases hv'
      have hci := hcx i hlt
      have hfr := hr2.frozen i
      have HS := Lib.hid (hr2.stored (hu.mono (by omega)))
      obtain ⟨a2, cp2, hu2⟩ := hu.slc
      subst hu2
      clear hr2 hu hb2 hcx
      go_wp2
      go_roundw
      case rel => exact ⟨i + 1, by omega, by go_num, ⟨_, HS.out⟩, by simp; omega, HB2.out.setCell (Nat.le_refl _) _⟩
      case measure => simp [intOf]; omega
    · obtain rfl : n = i := by omega
      go_wp2
      go_ret
      exact ⟨_, Z, rfl, HR.out, HB.out⟩
set_option maxRecDepth 100000 in
set_option maxHeartbeats 4000000 in
/-- impl.mapped over lists, at continued. -/
theorem mapped_ct (m B : Nat) (v : Value) (T : List (List Int)) (X : Nat → Value) (w : World) (h : isSz (m : Int) = true) (hv : TL w B m v T X) (h0 : 0 < T.length) (hT : T.length ≤ 16777216) (hb : ∀ i, i < T.length → Bgn m (T.getD i []) ∧ (T.getD i []).length < m) :
    Calls Tryz.prog 220 #[v, .func (.func 221) #[fdE (m : Int)] #[]] w fun e w' => ∃ v' Z, e = .returned v' ∧ T3 w' w.heap.size m v' T.length T.length (fun i => nx m (T.getD i []) m) Z ∧ Below w.heap.size w w' := by
  rcases hv.how with ⟨_, e⟩ | ⟨g, cap, rfl, hgB, hg, hc⟩
  · rw [e] at h0; exact absurd h0 (Nat.not_lt_zero _)
  have HLO : Hid (∀ (T1 T2 : TypeId) (w' : World), Below (w.heap.size + 2) ((w.alloc (.cells #[.slice (some ⟨g, 0, none⟩) T.length cap] T1)).alloc (.cells #[.func (.func 221) #[fdE (m : Int)] #[]] T2)) w' → Calls Tryz.prog 227 #[.int .i64 T.length, .func (.func 228) #[] #[.pointer (some ⟨w.heap.size + 1, 0, none⟩), .pointer (some ⟨w.heap.size, 0, none⟩)]] w' fun e w'' => ∃ v Z, e = .returned v ∧ T3 w'' w'.heap.size m v T.length T.length (fun i => nx m (T.getD i []) m) Z ∧ Below w'.heap.size w' w'') := Lib.hid fun T1 T2 w' hbw => by
    obtain ⟨t0, t1⟩ := two w (.cells #[.slice (some ⟨g, 0, none⟩) T.length cap] T1) (.cells #[.func (.func 221) #[fdE (m : Int)] #[]] T2)
    refine listOf_3 m T.length _ (w.heap.size + 1) w.heap.size w' hT fun i w'' hi hb2 => ?_
    have hz := hbw.size
    have hz2 := hb2.size
    simp at hz
    have hbx : Below w.heap.size w w'' := by (repeat' (first | (with_reducible assumption) | (with_reducible exact Below.refl _ _) | (with_reducible refine below_drewN ?_ _) | (with_reducible refine Below.drew ?_) | (with_reducible refine Below.alloc ?_ ?_ _) | (with_reducible refine Below.setCell ?_ ?_ _) | (with_reducible refine Below.trans ?_ (Below.mono (by assumption) ?_)) | (with_reducible exact Nat.le_refl _) | (with_reducible assumption) | omega | (simp; omega) | (simp; done)))
    refine ctClo m i T.length g cap _ _ (X i) (T.getD i []) w'' h hi (at_box ((hb2.block _ (by omega)).trans ((hbw.block _ (by omega)).trans t1))) (at_box ((hb2.block _ (by omega)).trans ((hbw.block _ (by omega)).trans t0))) ((hbx.cell (p := ⟨g, i, none⟩) hg).trans (hc i hi)) ((hv.inner i hi).below hbx (Nat.le_refl _)) (hb i hi).1 (hb i hi).2
  clear hv hb hc h hT h0
  generalize (fun i => nx m (T.getD i []) m) = F at *
  generalize T.length = n at *
  go_enter Tryz.func220, Tryz.ntmps220
  go_wp2_with fail
  refine (HLO.out _ _ _ (by (repeat' (first | (with_reducible assumption) | (with_reducible exact Below.refl _ _) | (with_reducible refine below_drewN ?_ _) | (with_reducible refine Below.drew ?_) | (with_reducible refine Below.alloc ?_ ?_ _) | (with_reducible refine Below.setCell ?_ ?_ _) | (with_reducible refine Below.trans ?_ (Below.mono (by assumption) ?_)) | (with_reducible exact Nat.le_refl _) | (with_reducible assumption) | omega | (simp; omega) | (simp; done))))).mono ?_
  rintro e w1 ⟨v1, Z, rfl, hr1, hb1⟩
  have HR1 := Lib.hid hr1; clear hr1
  have HB1 := Lib.hid hb1; clear hb1
  go_wp2
  go_ret
  have hb1 := HB1.out
  exact ⟨_, Z, rfl, HR1.out.mono (by first | (simp; done) | (simp; omega)), by (repeat' (first | (with_reducible assumption) | (with_reducible exact Below.refl _ _) | (with_reducible refine below_drewN ?_ _) | (with_reducible refine Below.drew ?_) | (with_reducible refine Below.alloc ?_ ?_ _) | (with_reducible refine Below.setCell ?_ ?_ _) | (with_reducible refine Below.trans ?_ (Below.mono (by assumption) ?_)) | (with_reducible exact Nat.le_refl _) | (with_reducible assumption) | omega | (simp; omega) | (simp; done)))⟩
set_option maxRecDepth 100000 in
set_option maxHeartbeats 4000000 in
/-- slices.Grow of nothing. -/
theorem growTE (n : Nat) (w : World) (h1 : 1 ≤ n) (hn : n ≤ 16777216) :
    Calls Tryz.prog 226 #[.slice none 0 0, .int .i64 n] w fun e w' => ∃ v, e = .returned v ∧ w'.ownsRow w.heap.size 65 1 v 0 [] ∧ Below w.heap.size w w' := by
  obtain ⟨i0, hi, iz0, iz1, iz2⟩ := info_parts Tryz.infoEs
  obtain ⟨G, hG⟩ : ∃ G, G = grownCap w (0 + n) 0 65 := ⟨_, rfl⟩
  obtain ⟨cur, hcur⟩ : ∃ cur : Array Value, cur = ([] : List Value).toArray ++ Builtin.zeroCells (Value.slice none 0 0).cells n ++ Builtin.zeroCells (Value.slice none 0 0).cells (G - (0 + n)) := ⟨_, rfl⟩
  have hrz : ∀ ty, (Builtin.append_ #[113, 3] ty #[.slice none 0 0, .int .i64 (n : Int)]).run Tryz.prog w = .ok (.slice (some ⟨w.heap.size, 0, none⟩) n G) (w.drew.alloc (.cells cur 65)) := fun ty => by
    have h := Lib.run_append_grow_zeros w 113 3 ty 65 i0 (.slice none 0 0) .i64 .i64 Tryz.underlying113 Tryz.underlying3 hi iz0 none 0 0 [] (run_firstCells_none w.drew i0.size 0 0 0) n h1 (by rw [iz1]; decide) (by omega) (by omega) (by rw [iz2]; omega) (growslice_fits (by omega) (by rw [iz2]; omega))
    rw [← hG] at h
    rw [hcur]
    simpa using h
  have hGn : n ≤ G := by
    have := grownCap_ge w (0 + n) 0 65
    rw [hG]; omega
  have hG63 : G ≤ maxLen := by
    rw [hG]
    exact grownCap_le_maxLen w _ _ _ (by unfold maxLen; omega)
  have hsz : cur.size = G * 1 := by
    rw [hcur]
    simp [Builtin.zeroCells, Value.cells]
    omega
  clear hG hcur
  have h2 : ¬ ((n : Int) < 0) := by omega
  have h3 : (n : Int) > 0 := by omega
  have h4 : IntKind.i64.wrap (n : Int) = n := IntWalk.i64_in _ (by omega)
  go_enter Tryz.func226, Tryz.ntmps226
  go_wp2_with (at_builtin; refine Lib.wpList_append_run _ rfl _ _ _ _ rfl _ _ rfl rfl _ _ (hrz _) ?_)
  all_goals
    go_ret
    refine ⟨_, rfl, ⟨rfl, .inr ⟨w.heap.size, G, cur, rfl, Nat.le_refl _, ?_, Nat.zero_le _, hG63, hsz, by simp⟩⟩, ?_⟩
    · exact heap_alloc_new w (.cells cur 65)
    · (repeat' (first | (with_reducible assumption) | (with_reducible exact Below.refl _ _) | (with_reducible refine below_drewN ?_ _) | (with_reducible refine Below.drew ?_) | (with_reducible refine Below.alloc ?_ ?_ _) | (with_reducible refine Below.setCell ?_ ?_ _) | (with_reducible refine Below.trans ?_ (Below.mono (by assumption) ?_)) | (with_reducible exact Nat.le_refl _) | (with_reducible assumption) | omega | (simp; omega) | (simp; done)))
/-- slices.Grow of nothing, by nothing. -/
theorem growTE0 (w : World) :
    Calls Tryz.prog 226 #[.slice none 0 0, .int .i64 0] w fun e w' => e = .returned (.slice none 0 0) ∧ w = w' := by
  have h4 : IntKind.i64.wrap (0 : Int) = 0 := IntWalk.i64_in _ (by omega)
  go_enter Tryz.func226, Tryz.ntmps226
  go_wp2
  go_ret
  exact ⟨rfl, rfl⟩
/-- The lists, one behind the other. -/
def catT (F : Nat → List (List Int)) : Nat → List (List Int)
  | 0 => []
  | k + 1 => catT F k ++ F k
theorem catT_len (F : Nat → List (List Int)) {i n : Nat} (h : i ≤ n) : (catT F i).length ≤ (catT F n).length := by
  induction n with
  | zero => obtain rfl : i = 0 := by omega
            exact Nat.le_refl _
  | succ n ih =>
    by_cases e : i = n + 1
    · subst e; exact Nat.le_refl _
    · have := ih (by omega)
      rw [catT, List.length_append]
      omega
theorem catT_flat (f : List Int → List (List Int)) (T : List (List Int)) : ∀ k, k ≤ T.length → catT (fun i => f (T.getD i [])) k = (T.take k).flatMap f := by
  intro k
  induction k with
  | zero => intro _; rfl
  | succ k ih =>
    intro hk
    rw [catT, ih (by omega), List.take_add_one, List.flatMap_append, List.getElem?_eq_getElem (by omega)]
    simp [List.getD, List.getElem?_eq_getElem (show k < T.length by omega)]
set_option maxRecDepth 100000 in
set_option maxHeartbeats 8000000 in
/-- slices.Concat of slices of lists. -/
theorem concatT (m n B : Nat) (v : Value) (F : Nat → List (List Int)) (Z : Nat → Value) (w : World) (h : T3 w B m v n n F Z) (hn : 0 < n) (hn2 : n ≤ 16777216) (hs : (catT F n).length ≤ 16777216) :
    Calls Tryz.prog 219 #[v] w fun e w' => ∃ v' X, e = .returned v' ∧ TL w' w.heap.size m v' (catT F n) X ∧ Below w.heap.size w w' := by
  obtain ⟨s0, hs0, sz0, sz1, sz2⟩ := info_parts Tryz.infoEs
  obtain ⟨g, cap, rfl, hgB, hgl, hcx⟩ := h.how hn
  have HXL : Hid (∀ i, i < n → ∃ a c, w.cell? ⟨g, i, none⟩ = some (.slice a (F i).length c)) := Lib.hid fun i hi => by
    obtain ⟨Y, hY⟩ := h.inner i hi
    obtain ⟨a, c, e⟩ := hY.slc
    exact ⟨a, c, by rw [hcx i hi, e]⟩
  have HXT : Hid (∀ i, i < n → ∃ Y, TL w B m (Z i) (F i) Y ∧ w.cell? ⟨g, i, none⟩ = some (Z i)) := Lib.hid fun i hi => by
    obtain ⟨Y, hY⟩ := h.inner i hi
    exact ⟨Y, hY, hcx i hi⟩
  have HL : Hid (∀ i, i ≤ n → (catT F i).length ≤ 16777216) := Lib.hid fun i hi => Nat.le_trans (catT_len F hi) hs
  have HS : Hid (∀ i, catT F (i + 1) = catT F i ++ F i) := Lib.hid fun _ => rfl
  have HC0 : Hid (catT F 0 = []) := Lib.hid rfl
  have HG := Lib.hid (fun n w h1 h2 => growTE n w h1 h2)
  have HG0 := Lib.hid growTE0
  clear h hcx hs
  generalize catT F = C at *
  go_enter Tryz.func219, Tryz.ntmps219
  go_wp2_with fail
  go_loopw [3, 11] (fun vs vi wr => ∃ i s : Nat, i ≤ n ∧ s = (C i).length ∧ vi = .int .i64 i ∧ vs = .int .i64 s ∧ w = wr) (fun _ vi _ => n - (intOf vi).toNat)
  case atStart => exact ⟨0, 0, Nat.zero_le _, by rw [HC0.out]; rfl, rfl, rfl, rfl⟩
  case round =>
    obtain ⟨i, s, hik, hs, rfl, rfl, rfl⟩ := hrel
    have hm := HL.out i hik
    rw [← hs] at hm
    have HSS := Lib.hid hs
    clear hs
    by_cases hlt : i < n
    · obtain ⟨a, c, hc⟩ := HXL.out i hlt
      have hm2 := HL.out (i + 1) hlt
      have HS2 : Hid (s + (F i).length = (C (i + 1)).length) := Lib.hid (by rw [HS.out, List.length_append, HSS.out])
      rw [← HS2.out] at hm2
      generalize (F i).length = d at *
      have hw1 : IntKind.i64.wrap ((s : Int) + (d : Int)) = (s : Int) + (d : Int) := IntWalk.i64_in _ (by omega)
      have hneg : ¬ ((s : Int) + (d : Int) < 0) := by omega
      clear hm2
      go_wp2
      go_roundw
      case rel => exact ⟨i + 1, s + d, by omega, HS2.out, by go_num, by go_num, by first | rfl | trivial⟩
      case measure => (simp [intOf]; try omega)
    · obtain rfl : i = n := by omega
      have HGR : Hid (Calls Tryz.prog 226 #[.slice none 0 0, .int .i64 s] w fun e w' => ∃ v, e = .returned v ∧ w'.ownsRow w.heap.size 65 1 v 0 [] ∧ Below w.heap.size w w') := Lib.hid (by
        by_cases h0 : 1 ≤ s
        · exact HG.out s w h0 hm
        · obtain rfl : s = 0 := by omega
          exact (HG0.out w).mono fun e w' ⟨he, hw⟩ => ⟨_, he, World.ownsRow_nil _ _ _ _, hw ▸ Below.refl _ _⟩)
      go_wp2_with fail
      refine HGR.out.mono ?_
      rintro e w1 ⟨v1, rfl, hr1, hb1⟩
      have HR1 : Hid (TL w1 w.heap.size m v1 (C 0) (fun _ => .slice none 0 0)) := Lib.hid (by rw [HC0.out]; exact ⟨hr1, fun _ hi => absurd hi (Nat.not_lt_zero _)⟩)
      have HB1 := Lib.hid hb1
      clear hr1 hb1
      go_wp2_with fail
      go_loopw [6, 27] (fun vs vi wr => ∃ (k : Nat) (X : Nat → Value) (ov : Value), ov = vs ∧ k ≤ i ∧ vi = .int .i64 k ∧ TL wr w.heap.size m ov (C k) X ∧ Below w.heap.size w wr) (fun _ vi _ => i - (intOf vi).toNat)
      case atStart => exact ⟨0, _, _, rfl, Nat.zero_le _, rfl, HR1.out, HB1.out⟩
      case round =>
        obtain ⟨k, X, ov, rfl, hik2, rfl, hr, hbw⟩ := hrel
        have HR := Lib.hid hr
        have HBW := Lib.hid hbw
        have hz := hbw.size
        clear hr hbw
        by_cases hlt2 : k < i
        · obtain ⟨Y, hY, hc⟩ := HXT.out k hlt2
          have hY2 := hY.below HBW.out
          have hc2 := (HBW.out.cell (p := ⟨g, k, none⟩) hgl).trans hc
          have HSk := Lib.hid (HS.out k)
          have HLk := Lib.hid (HL.out k hik2)
          have hLk1 := HL.out (k + 1) hlt2
          rw [HSk.out, List.length_append] at hLk1
          have HY2 := Lib.hid hY2
          clear hY hc
          generalize Z k = zk at *
          generalize F k = fk at *
          rcases hY2.how with ⟨rfl, rfl⟩ | ⟨g7, cap7, rfl, hg7, hgl7, hc7⟩
          · have HY3 : Hid (C (k + 1) = C k) := Lib.hid (by rw [HSk.out, List.append_nil])
            clear hY2
            go_wp2_with (at_builtin; refine wpList_append_own_none rfl _ _ 113 rfl w.heap.size 65 s0 1 Tryz.underlying113 hs0 _ _ _ rfl HR.out.outer rfl ?_)
            go_roundw
            case rel => exact ⟨k + 1, X, _, rfl, by omega, by go_num, by rw [HY3.out]; exact HR.out, HBW.out⟩
            case measure => (simp [intOf]; try omega)
          · have HC7 := Lib.hid hc7
            clear hc7 hY2
            go_wp2_with (at_builtin; refine wpList_append_own _ rfl _ _ 113 rfl w.heap.size 65 s0 (.slice none 0 0) 1 24 Tryz.underlying113 hs0 sz0 sz1 sz2 rfl (by decide) _ _ _ rfl HR.out.outer ⟨g7, 0, none⟩ fk.length cap7 (flv Y fk.length) rfl ?d1 ?d2 ?d3 ?d4 ?d5 ?d6 ?_)
            case d1 => rw [flv_len]; omega
            case d2 =>
              intro j u hj
              have hjl : j < fk.length := by
                rcases Nat.lt_or_ge j fk.length with hh | hh
                · exact hh
                · rw [List.getElem?_eq_none (by rw [flv_len]; exact hh)] at hj; cases hj
              rw [flv_get _ _ _ hjl] at hj
              cases hj
              rw [add_off, Nat.zero_add]
              exact HC7.out j hjl
            case d3 =>
              intro u hu
              obtain ⟨j, hj, rfl⟩ := List.mem_map.1 hu
              exact (HY2.out.inner j (List.mem_range.1 hj)).one
            case d4 => unfold maxLen; omega
            case d5 => omega
            case d6 => first | omega | (simp; omega)
            intro v8 w8 hown hgrow _
            have HR8 := Lib.hid (HR.out.app hgrow hown HY2.out.inner)
            have HB8 := Lib.hid (HBW.out.grown hgrow hz (fun g hg => (HR.out.lt g hg).1))
            clear hown hgrow
            go_wp2
            go_roundw
            case rel => exact ⟨k + 1, _, _, rfl, by omega, by go_num, by rw [HSk.out]; exact HR8.out, HB8.out⟩
            case measure => (simp [intOf]; try omega)
        · obtain rfl : k = i := by omega
          go_wp2
          go_ret
          exact ⟨_, X, rfl, HR.out, HBW.out⟩
end Go.Proofs.YtapglncgicfjnabGreat
