/- Slices of polynomials; impl.mapped over them at impl.poly.numbers; by contracts. -/
import Derived.Test.YtnmdcmbcackchabMG
import Derived.Test.YtnmdcmbcackchabKM
import Derived.Deep.RegionHeld3
namespace Go.Proofs.Ytnmdcmbcackchab
open Go.RowKit
theorem Try.infoP : (Try.prog.info? 46).map (fun i => (i.zero, i.size, i.bytes)) = some (some (.agg #[.int .i64 0, .int .i64 0, .int .i64 0, .slice none 0 0]), 4, 48) := by kernel_rfl
/-- The coefficients of one of them. -/
abbrev pv (d : Nat) (Y : Nat × Nat) : Value := .slice (some ⟨Y.1, 0, none⟩) (d + 1) Y.2
def pcell (m : Int) (d : Nat) (Y : Nat × Nat) : List Value := [.int .i64 m, .int .i64 (pr m), .int .i64 (pl m), pv d Y]
def plc (m : Int) (d : Nat) (Y : Nat → Nat × Nat) : Nat → List Value
  | 0 => []
  | n + 1 => plc m d Y n ++ pcell m d (Y n)
theorem plc_len (m : Int) (d : Nat) (Y : Nat → Nat × Nat) : ∀ n, (plc m d Y n).length = n * 4
  | 0 => rfl
  | n + 1 => by rw [plc, List.length_append, plc_len m d Y n, Nat.succ_mul]; rfl
theorem plc_congr {m : Int} {d : Nat} {Y Z : Nat → Nat × Nat} : ∀ {n : Nat}, (∀ i, i < n → Y i = Z i) → plc m d Y n = plc m d Z n
  | 0, _ => rfl
  | n + 1, h => by rw [plc, plc, plc_congr fun i hi => h i (by omega), h n (by omega)]
theorem plc_get (m : Int) (d : Nat) (Y : Nat → Nat × Nat) : ∀ n i j, i < n → j < 4 → (plc m d Y n)[i * 4 + j]? = (pcell m d (Y i))[j]?
  | 0, i, j, hi, _ => absurd hi (Nat.not_lt_zero _)
  | n + 1, i, j, hi, hj => by
    rw [plc]
    by_cases e : i = n
    · subst e
      rw [List.getElem?_append_right (by rw [plc_len]; omega), plc_len, Nat.add_sub_cancel_left]
    · rw [List.getElem?_append_left (by rw [plc_len]; omega), plc_get m d Y n i j (by omega) hj]
/-- A slice of polynomials of one degree, made by the call. -/
structure PS (w : World) (B : Nat) (v : Value) (m d : Nat) (L : List Nat) (Y : Nat → Nat × Nat) : Prop where
  outer : w.ownsRow B 46 4 v L.length (plc m d Y L.length)
  inner : ∀ i, i < L.length → (Y i).1 < w.heap.size ∧ Els w (Y i).1 (m : Int) (pf m d (L.getD i 0)) (d + 1)
theorem PS.nil (w : World) (B m d : Nat) (Y : Nat → Nat × Nat) : PS w B (.slice none 0 0) m d [] Y := ⟨World.ownsRow_nil _ _ _ _, fun _ hi => absurd hi (Nat.not_lt_zero _)⟩
theorem PS.lt {w : World} {B m d : Nat} {v : Value} {L : List Nat} {Y : Nat → Nat × Nat} (h : PS w B v m d L Y) : ∀ g, v.ownBlock = some g → B ≤ g ∧ g < w.heap.size := World.ownsRow.lt h.outer
theorem owns_kept {w w' : World} {B n s : Nat} {e : TypeId} {v : Value} {xs : List Value} (h : w.ownsRow B e s v n xs) (hk : ∀ g, v.ownBlock = some g → w'.heap[g]? = w.heap[g]?) : w'.ownsRow B e s v n xs := by
  refine ⟨h.1, ?_⟩
  rcases h.2 with hn | ⟨g, cap, cur, rfl, hb, hgg, rest⟩
  · exact .inl hn
  · exact .inr ⟨g, cap, cur, rfl, hb, (hk g rfl).trans hgg, rest⟩
theorem PS.below {w w' : World} {B C m d : Nat} {v : Value} {L : List Nat} {Y : Nat → Nat × Nat} (h : PS w B v m d L Y) (hb : Below C w w') (hC : w.heap.size ≤ C) : PS w' B v m d L Y :=
  ⟨owns_kept h.outer fun g hg => hb.block g (by have := (h.lt g hg).2; omega), fun i hi => ⟨by have h1 := (h.inner i hi).1; have h2 := hb.size; omega, (h.inner i hi).2.same (hb.block _ (by have h1 := (h.inner i hi).1; omega))⟩⟩
/-- A block of polynomials is none of elements. -/
theorem poly_not_el {w : World} {B n g m d k cap : Nat} {Y : Nat → Nat × Nat} {f : Nat → Int} (h : w.ownsRow B 46 4 (.slice (some ⟨g, 0, none⟩) (n + 1) cap) (n + 1) (plc m d Y (n + 1))) (he : Els w g (m : Int) f (k + 1)) : False := by
  have h1 := World.ownsRow.cellAt h 3 (by omega)
  have h2 := plc_get (m : Int) d Y (n + 1) 0 3 (by omega) (by omega)
  have h3 := (he 0 (by omega)).2.2.2.1
  simp only [Nat.zero_mul, Nat.zero_add] at h2 h3
  rw [h2, h3] at h1
  simp [pcell] at h1
theorem owns_slice' {w : World} {B n : Nat} {e : TypeId} {s : Nat} {v : Value} {xs : List Value} (h : w.ownsRow B e s v n xs) : ∃ a cap, v = .slice a n cap := by
  rcases h.2 with ⟨rfl, rfl⟩ | ⟨g, cap, cur, rfl, _⟩
  · exact ⟨_, _, rfl⟩
  · exact ⟨_, _, rfl⟩
theorem PS.appended {w w' : World} {B m d J gp cp : Nat} {v v' : Value} {L : List Nat} {Y : Nat → Nat × Nat} (h : PS w B v m d L Y) (hg : w.grownBy w' v.ownBlock) (hown : w'.ownsRow B 46 4 v' (L.length + 1) (plc m d Y L.length ++ pcell m d (gp, cp)))
    (hl : gp < w.heap.size) (he : Els w gp (m : Int) (pf m d J) (d + 1)) (hne : v.ownBlock ≠ some gp) : PS w' B v' m d (L ++ [J]) (set1 Y L.length (gp, cp)) := by
  have hz := hg.size
  have e : plc m d (set1 Y L.length (gp, cp)) (L.length + 1) = plc m d Y L.length ++ pcell m d (gp, cp) := by
    rw [plc, set1_at, plc_congr fun i hi => set1_ne _ _ _ _ (by omega)]
  refine ⟨by rw [List.length_append]; show w'.ownsRow B 46 4 v' (L.length + 1) (plc m d (set1 Y L.length (gp, cp)) (L.length + 1)); rw [e]; exact hown, fun i hi => ?_⟩
  rw [List.length_append] at hi
  by_cases c : i = L.length
  · subst c
    rw [set1_at]
    refine ⟨by show gp < w'.heap.size; omega, ?_⟩
    have : (L ++ [J]).getD L.length 0 = J := by simp [List.getD]
    rw [this]
    exact he.same (hg.block gp hl (fun e => hne e.symm))
  · rw [set1_ne _ _ _ _ c]
    have hi' : i < L.length := by simp at hi; omega
    have hin := h.inner i hi'
    have : (L ++ [J]).getD i 0 = L.getD i 0 := by simp [List.getD, List.getElem?_append_left hi']
    rw [this]
    refine ⟨by omega, hin.2.same (hg.block _ hin.1 fun e => ?_)⟩
    obtain ⟨n, hn⟩ : ∃ n, L.length = n + 1 := ⟨L.length - 1, by omega⟩
    have ho := h.outer
    obtain ⟨a, cap, rfl⟩ := owns_slice' ho
    rw [hn] at ho
    cases a with
    | none => simp [Value.ownBlock] at e
    | some a =>
      have hb := ho.2
      rcases hb with ⟨hb, _⟩ | ⟨g, c2, cur, hb, _⟩
      · cases hb
      · cases hb
        simp [Value.ownBlock] at e
        subst e
        exact poly_not_el ho hin.2
theorem flv_set (X : Nat → Value) (n i : Nat) (u : Value) : (flv X n).set i u = flv (set1 X i u) n := by
  refine List.ext_getElem (by simp [flv]) fun j h1 h2 => ?_
  simp [flv, List.getElem_set, set1]
  split <;> rename_i h <;> simp [h, eq_comm]
/-- A slice put into its place. -/
theorem RS.stored {w : World} {B n g cap i : Nat} {F : Nat → List Int} {X : Nat → Value} {u : Value} {l : List Int} (h : RS w B (.slice (some ⟨g, 0, none⟩) n cap) n F X) (hi : i < n) (hu : Row w B u l)
    (ha : ∀ j, j < n → j ≠ i → ∀ k, (X j).ownBlock = some k → u.ownBlock ≠ some k) : RS (w.setCell ⟨g, i, none⟩ u) B (.slice (some ⟨g, 0, none⟩) n cap) n (set1 F i l) (set1 X i u) := by
  have ho := (World.ownsRow.stored h.outer i u).1
  rw [flv_set] at ho
  have hk : ∀ (v : Value) (l : List Int), Row w B v l → Row (w.setCell ⟨g, i, none⟩ u) B v l := fun v l hr => hr.keep fun k hk => heap_setCell_other _ _ _ _ (fun e => by
    have : k = g := e
    subst this
    exact outer_ne h.outer hr hk rfl)
  refine ⟨ho, fun j hj => ?_, fun j k hjk hk' b hb => ?_⟩
  · by_cases e : j = i
    · subst e
      rw [set1_at, set1_at]
      exact hk _ _ hu
    · rw [set1_ne _ _ _ _ e, set1_ne _ _ _ _ e]
      exact hk _ _ (h.inner j hj)
  · by_cases e : j = i
    · subst e
      rw [set1_at] at hb
      rw [set1_ne _ _ _ _ (by omega)]
      intro hc
      exact ha k hk' (by omega) b hc hb
    · rw [set1_ne _ _ _ _ e] at hb
      by_cases c : k = i
      · subst c
        rw [set1_at]
        exact ha j (by omega) e b hb
      · rw [set1_ne _ _ _ _ c]
        exact h.apart j k hjk hk' b hb
def partL (F : Nat → List Int) (i : Nat) : Nat → List Int := fun j => if j < i then F j else []
theorem partL_succ (F : Nat → List Int) (i : Nat) : set1 (partL F i) i (F i) = partL F (i + 1) := by
  funext j
  unfold set1 partL
  by_cases e : j = i
  · subst e
    rw [if_pos rfl, if_pos (by omega)]
  · rw [if_neg e]
    by_cases h : j < i
    · rw [if_pos h, if_pos (by omega)]
    · rw [if_neg h, if_neg (by omega)]
theorem RS.made {w : World} {B g n : Nat} (F : Nat → List Int) (h : w.ownsRow B 22 1 (.slice (some ⟨g, 0, none⟩) n n) n (madeCells #[Value.slice none 0 0] n).toList) : RS w B (.slice (some ⟨g, 0, none⟩) n n) n (partL F 0) (fun _ => .slice none 0 0) := by
  have e : flv (fun _ => Value.slice none 0 0) n = List.replicate n (Value.slice none 0 0) := by
    unfold flv
    rw [List.map_const', List.length_range]
  rw [toList_madeCells_one] at h
  refine ⟨by rw [e]; exact h, fun i hi => ?_, fun i j hij hj g hg => by simp [Value.ownBlock] at hg⟩
  show Row w B _ (if i < 0 then F i else [])
  rw [if_neg (by omega)]
  exact Row.nil _ _
set_option maxHeartbeats 2000000 in
/-- impl.listOf at impl.mapped[impl.poly,[]int]$1. -/
theorem listOf_SS (n : Nat) (F : Nat → List Int) (A0 A1 : Nat) (w : World) (hn : n ≤ 1000) (HX : ∀ (i : Nat) w', i < n → Below w.heap.size w w' → Calls Try.prog 79 #[.int .i64 i, .pointer (some ⟨A0, 0, none⟩), .pointer (some ⟨A1, 0, none⟩)] w' fun e w'' => ∃ v, e = .returned v ∧ Row w'' w'.heap.size v (F i) ∧ Below w'.heap.size w' w'') :
    Calls Try.prog 78 #[.int .i64 n, .func (.func 79) #[] #[.pointer (some ⟨A0, 0, none⟩), .pointer (some ⟨A1, 0, none⟩)]] w fun e w' => ∃ v X, e = .returned v ∧ RS w' w.heap.size v n F X ∧ Below w.heap.size w w' := by
  obtain ⟨j0, hj, jz0, jz1, jz2⟩ := info_parts Try.infoR
  have HXX := Lib.hid HX; clear HX
  go_enter Try.func78, Try.ntmps78
  go_wp2_with (at_make; refine wpList_make_full _ rfl _ _ 32 rfl w.heap.size 22 j0 (.slice none 0 0) 1 Try.underlying32 hj jz0 jz1 .i64 .i64 _ _ n rfl rfl rfl rfl ?c3 ?c4 ?c5 ?_)
  case c3 => rw [jz2]; omega
  case c4 => unfold maxLen; omega
  case c5 => omega
  intro w1 hown hgrow
  have HR := Lib.hid (RS.made F hown)
  have HB := Lib.hid ((Below.refl w.heap.size w).grown hgrow (Nat.le_refl _) (fun k hk => by cases hk))
  clear hown hgrow
  go_wp2_with fail
  go_loopw [11] (fun vi wr => ∃ (i : Nat) (X : Nat → Value), i ≤ n ∧ vi = .int .i64 i ∧ RS wr w.heap.size (.slice (some ⟨w.heap.size, 0, none⟩) n n) n (partL F i) X ∧ Below w.heap.size w wr) (fun vi _ => n - (intOf vi).toNat)
  case atStart => exact ⟨0, _, Nat.zero_le _, rfl, HR.out, HB.out⟩
  case round =>
    obtain ⟨i, X, hi, rfl, hr, hbel⟩ := hrel
    by_cases hlt : i < n
    · have HX' := Lib.hid (HXX.out i _ hlt hbel)
      have HR := Lib.hid hr; clear hr
      have HBL := Lib.hid hbel; clear hbel
      go_wp2_with fail
      refine HX'.out.mono ?_
      rintro e w2 ⟨v2, rfl, hr2, hb2⟩
      have hrs := HR.out.below hb2
      have hz := HBL.out.size
      have HRS := Lib.hid (hrs.stored hlt (hr2.mono hz) (fun j hj hne k hk e => by
        have h1 := ((HR.out.inner j hj).lt k hk).2
        have h2 := (hr2.lt k e).1
        omega))
      have HB2 := Lib.hid (HBL.out.trans (hb2.mono hz))
      obtain ⟨g', c', hv', _, hgl, hc⟩ := hrs.form (by omega)
      cases hv'
      have e2 := hc i hlt
      have f2 := World.ownsRow.frozenAt hrs.outer i
      obtain ⟨a2, c2, hv2⟩ := hr2.sl.form
      subst hv2
      clear hb2 hr2 hrs hc
      have HS := Lib.hid (partL_succ F i)
      generalize (F i).length = fl at *
      generalize X i = u at *
      go_wp2
      go_roundw
      case rel => exact ⟨i + 1, _, by omega, by go_num, by rw [← HS.out]; exact HRS.out, HB2.out.setCell (Nat.le_refl _) _⟩
      case measure => simp [intOf]; omega
    · obtain rfl : n = i := by omega
      go_wp2
      go_ret
      exact ⟨_, X, rfl, hr.congr (fun j hj => if_pos hj), hbel⟩
set_option maxHeartbeats 2000000 in
/-- The closure of impl.mapped over polynomials, at impl.poly.numbers. -/
theorem cloPN (m d i n g cap A0 A1 : Nat) (y : Nat × Nat) (f : Nat → Int) (w : World) (h : isSz (m : Int) = true) (hd : d ≤ 900) (hin : i < n) (hf : ∀ i, El (m : Int) (f i))
    (c0 : w.cell? ⟨A0, 0, none⟩ = some (.func (.func 52) #[] #[])) (c1 : w.cell? ⟨A1, 0, none⟩ = some (.slice (some ⟨g, 0, none⟩) n cap))
    (p0 : w.cell? ⟨g, i * 4, none⟩ = some (.int .i64 m)) (p1 : w.cell? ⟨g, i * 4 + 1, none⟩ = some (.int .i64 (pr m))) (p2 : w.cell? ⟨g, i * 4 + 2, none⟩ = some (.int .i64 (pl m))) (p3 : w.cell? ⟨g, i * 4 + 3, none⟩ = some (pv d y))
    (hl : y.1 < w.heap.size) (he : Els w y.1 (m : Int) f (d + 1)) :
    Calls Try.prog 79 #[.int .i64 i, .pointer (some ⟨A0, 0, none⟩), .pointer (some ⟨A1, 0, none⟩)] w fun e w' => ∃ v, e = .returned v ∧ Row w' w.heap.size v (fl f (d + 1)) ∧ Below w.heap.size w w' := by
  have HN := Lib.hid (fun w' (hb : Below w.heap.size w w') => numbersE (m : Int) (pv d y) f (d + 1) w' h ⟨_, _, rfl, by have := hb.size; omega, he.same (hb.block _ hl)⟩ (fun i _ => hf i) (by omega))
  clear h hf he
  go_enter Try.func79, Try.ntmps79
  go_wp2_with fail
  go_region_with (go_at_call 52; refine (HN.out _ (by (repeat' (first | (with_reducible assumption) | (with_reducible exact Below.refl _ _) | (with_reducible refine below_drewN ?_ _) | (with_reducible refine Below.drew ?_) | (with_reducible refine Below.alloc ?_ ?_ _) | (with_reducible refine Below.setCell ?_ ?_ _) | (with_reducible refine Below.trans ?_ (Below.mono (by assumption) ?_)) | (with_reducible exact Nat.le_refl _) | (with_reducible assumption) | omega | (simp; omega) | (simp; done))))).mono ?_; rintro e w1 ⟨v1, rfl, hr1, hb1⟩; have HR1 := Lib.hid hr1; clear hr1; obtain ⟨hc1, hf1⟩ := bcell hb1; (try simp only [World.size_drew] at hc1 hf1); have hz1 := hb1.size; (try simp at hz1); have HB1 := Lib.hid hb1; clear hb1)
  all_goals
    go_wp2
    go_ret
    have hb1 := HB1.out
    exact ⟨_, rfl, HR1.out.mono (by simp), by (repeat' (first | (with_reducible assumption) | (with_reducible exact Below.refl _ _) | (with_reducible refine below_drewN ?_ _) | (with_reducible refine Below.drew ?_) | (with_reducible refine Below.alloc ?_ ?_ _) | (with_reducible refine Below.setCell ?_ ?_ _) | (with_reducible refine Below.trans ?_ (Below.mono (by assumption) ?_)) | (with_reducible exact Nat.le_refl _) | (with_reducible assumption) | omega | (simp; omega) | (simp; done)))⟩
set_option maxHeartbeats 2000000 in
/-- impl.mapped over polynomials, at impl.poly.numbers. -/
theorem mappedPN (m d B : Nat) (v : Value) (L : List Nat) (Y : Nat → Nat × Nat) (w : World) (h : isSz (m : Int) = true) (hd : d ≤ 900) (hv : PS w B v m d L Y) (hl : L.length ≤ 1000) :
    Calls Try.prog 50 #[v, .func (.func 52) #[] #[]] w fun e w' => ∃ v' X, e = .returned v' ∧ RS w' w.heap.size v' L.length (PF m d L) X ∧ Below w.heap.size w w' := by
  have hq := isSz_le (m : Int) h
  have HX : Hid (∀ (T1 T2 : TypeId) (i : Nat) w', i < L.length → Below ((w.alloc (lblk T1 v)).alloc (lblk T2 (.func (.func 52) #[] #[]))).heap.size ((w.alloc (lblk T1 v)).alloc (lblk T2 (.func (.func 52) #[] #[]))) w' →
      Calls Try.prog 79 #[.int .i64 i, .pointer (some ⟨w.heap.size + 1, 0, none⟩), .pointer (some ⟨w.heap.size, 0, none⟩)] w' fun e w'' => ∃ v', e = .returned v' ∧ Row w'' w'.heap.size v' (PF m d L i) ∧ Below w'.heap.size w' w'') := Lib.hid fun T1 T2 i w' hi hb => by
    have hz := hb.size
    simp at hz
    obtain ⟨n, hn⟩ : ∃ n, L.length = n + 1 := ⟨L.length - 1, by omega⟩
    have hbw : Below w.heap.size w w' := by (repeat' (first | (with_reducible assumption) | (with_reducible exact Below.refl _ _) | (with_reducible refine below_drewN ?_ _) | (with_reducible refine Below.drew ?_) | (with_reducible refine Below.alloc ?_ ?_ _) | (with_reducible refine Below.setCell ?_ ?_ _) | (with_reducible refine Below.trans ?_ (Below.mono (by assumption) ?_)) | (with_reducible exact Nat.le_refl _) | (with_reducible assumption) | omega | (simp; omega) | (simp; done)))
    have hin := hv.inner i hi
    rcases hv.outer.2 with ⟨_, h0⟩ | ⟨g, cap, cur, rfl, hgB, hgg, _⟩
    · omega
    have hgl : g < w.heap.size := (Array.getElem?_eq_some_iff.1 hgg).1
    have hcell : ∀ j, j < 4 → w'.cell? ⟨g, i * 4 + j, none⟩ = (pcell m d (Y i))[j]? := fun j hj => by
      rw [hbw.cell (p := ⟨g, i * 4 + j, none⟩) hgl, World.ownsRow.cellAt hv.outer (i * 4 + j) (by omega), plc_get _ _ _ _ _ _ hi hj]
    refine cloPN m d i L.length g cap _ _ (Y i) (pf m d (L.getD i 0)) w' h hd hi (pf_el d _ (by omega)) (at_box (T := T2) ?_) (at_box (T := T1) ?_) (hcell 0 (by omega)) (hcell 1 (by omega)) (hcell 2 (by omega)) (hcell 3 (by omega)) (by have := hin.1; omega) (hin.2.same (hbw.block _ hin.1))
    · rw [hb.block _ (by simp)]
      have := heap_alloc_new (w.alloc (lblk T1 (.slice (some ⟨g, 0, none⟩) L.length cap))) (lblk T2 (.func (.func 52) #[] #[]))
      simpa using this
    · rw [hb.block _ (by simp; omega), Below.heap_alloc _ _ _ (by simp)]
      exact heap_alloc_new w _
  obtain ⟨a, cap, rfl⟩ := owns_slice' hv.outer
  clear hv h
  generalize PF m d L = F at *
  generalize L.length = n at *
  go_enter Try.func50, Try.ntmps50
  go_wp2_with fail
  refine (listOf_SS n F (w.heap.size + 1) w.heap.size _ hl (HX.out _ _)).mono ?_
  rintro e w1 ⟨v, X, rfl, hr1, hb1⟩
  have HR := Lib.hid hr1; clear hr1
  have HB1 := Lib.hid hb1; clear hb1
  go_wp2
  go_ret
  have hb1 := HB1.out
  exact ⟨_, X, rfl, HR.out.mono (by simp; omega), by (repeat' (first | (with_reducible assumption) | (with_reducible exact Below.refl _ _) | (with_reducible refine below_drewN ?_ _) | (with_reducible refine Below.drew ?_) | (with_reducible refine Below.alloc ?_ ?_ _) | (with_reducible refine Below.setCell ?_ ?_ _) | (with_reducible refine Below.trans ?_ (Below.mono (by assumption) ?_)) | (with_reducible exact Nat.le_refl _) | (with_reducible assumption) | omega | (simp; omega) | (simp; done)))⟩
end Go.Proofs.Ytnmdcmbcackchab
