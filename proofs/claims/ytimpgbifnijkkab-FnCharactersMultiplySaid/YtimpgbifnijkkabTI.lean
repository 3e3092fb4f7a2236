/- PointsOf, of both, by contracts; the walk of its law. -/
import Derived.Test.YtimpgbifnijkkabTF
import Derived.Test.YtimpgbifnijkkabLV
import Derived.Test.YtimpgbifnijkkabKM
import Derived.Deep.RegionHeld3
namespace Go.Proofs.Ytimpgbifnijkkab
open Go.RowKit
theorem RS.lts {w : World} {B n : Nat} {v : Value} {F : Nat → List Int} {X : Nat → Value} (h : RS w B v n F X) : (∀ g, v.ownBlock = some g → B ≤ g ∧ g < w.heap.size) ∧ ∀ i, i < n → ∀ g, (X i).ownBlock = some g → B ≤ g ∧ g < w.heap.size :=
  ⟨h.lt, fun i hi g hg => (h.inner i hi).lt g hg⟩
theorem RS.slcP {w : World} {B n : Nat} {v : Value} {F : Nat → List Int} {X : Nat → Value} (h : RS w B v n F X) : ∃ a cap, v = .slice a n cap := by
  rcases h.outer.2 with ⟨hx, hn⟩ | ⟨g, cap, cur, hx, _⟩
  · subst hn
    exact ⟨_, _, hx⟩
  · exact ⟨_, _, hx⟩
/-- A slice of slices lies in no block of another type. -/
theorem RS.off {w : World} {B n T : Nat} {v : Value} {F : Nat → List Int} {X : Nat → Value} {cs : Array Value} {ty : TypeId} {fz : Nat × Nat} (h : RS w B v n F X) (hT : w.heap[T]? = some (.cells cs ty fz)) (hne : ty ≠ 25) : v.ownBlock ≠ some T := by
  intro e
  rcases h.outer.2 with ⟨hx, _⟩ | ⟨g, cap, cur, hx, _, hh, _⟩
  · rw [hx] at e
    cases e
  · rw [hx] at e
    injection e with e
    change g = T at e
    subst e
    rw [hT] at hh
    injection hh with hh
    injection hh with _ h2 _
    exact hne h2
/-- A list of lists. -/
def FLP (L : List (List Int)) : Nat → List Int := fun i => L.getD i []
theorem FLP_app (L : List (List Int)) (l : List Int) : ∀ i, i < L.length + 1 → set1 (FLP L) L.length l i = FLP (L ++ [l]) i := by
  intro i hi
  by_cases e : i = L.length
  · subst e
    rw [set1_at]
    simp [FLP]
  · rw [set1_ne _ _ _ _ e]
    unfold FLP
    simp [List.getD, List.getElem?_append_left (show i < L.length by omega)]
/-- The points over x with small y. -/
def ptx (m : Nat) (x : Nat) (z : Int) : Nat → List (List Int)
  | 0 => []
  | y + 1 => ptx m x z y ++ (if mulF m (y : Int) (y : Int) = z then [[(x : Int), (y : Int)]] else [])
/-- All points with small x. -/
def pts (m : Nat) (t : Nat → Int) : Nat → List (List Int)
  | 0 => []
  | x + 1 => pts m t x ++ ptx m x (t x) m
theorem ptx_yes {m x y : Nat} {z : Int} (h : mulF m (y : Int) (y : Int) = z) : ptx m x z (y + 1) = ptx m x z y ++ [[(x : Int), (y : Int)]] := by rw [ptx, if_pos h]
theorem ptx_no {m x y : Nat} {z : Int} (h : ¬ mulF m (y : Int) (y : Int) = z) : ptx m x z (y + 1) = ptx m x z y := by rw [ptx, if_neg h, List.append_nil]
theorem ptx_len (m x : Nat) (z : Int) : ∀ y, (ptx m x z y).length ≤ y
  | 0 => Nat.le_refl _
  | y + 1 => by
    have := ptx_len m x z y
    by_cases h : mulF m (y : Int) (y : Int) = z
    · rw [ptx_yes h, List.length_append]
      simp
      omega
    · rw [ptx_no h]
      omega
theorem pts_len {m : Nat} {t : Nat → Int} (hm : m ≤ 16) : ∀ x, (pts m t x).length ≤ 16 * x
  | 0 => Nat.le_refl _
  | x + 1 => by
    have h1 := pts_len hm (t := t) x
    have h2 := ptx_len m x (t x) m
    rw [pts, List.length_append]
    omega
theorem ptx_two (m x : Nat) (z : Int) : ∀ y, ∀ l ∈ ptx m x z y, l.length ≤ 2
  | 0, l, hl => by cases hl
  | y + 1, l, hl => by
    by_cases h : mulF m (y : Int) (y : Int) = z
    · rw [ptx_yes h, List.mem_append] at hl
      rcases hl with hl | hl
      · exact ptx_two m x z y l hl
      · simp at hl
        rw [hl]
        exact Nat.le_refl 2
    · rw [ptx_no h] at hl
      exact ptx_two m x z y l hl
theorem pts_two (m : Nat) (t : Nat → Int) : ∀ x, ∀ l ∈ pts m t x, l.length ≤ 2
  | 0, l, hl => by cases hl
  | x + 1, l, hl => by
    rw [pts, List.mem_append] at hl
    rcases hl with hl | hl
    · exact pts_two m t x l hl
    · exact ptx_two m x (t x) m l hl
theorem FLP_two {L : List (List Int)} (h : ∀ l ∈ L, l.length ≤ 2) (i : Nat) : (FLP L i).length ≤ 2 := by
  unfold FLP
  by_cases hi : i < L.length
  · rw [show L.getD i [] = L[i] by simp [List.getD, hi]]
    exact h _ (List.getElem_mem hi)
  · rw [show L.getD i [] = [] by simp [List.getD, hi]]
    decide
theorem ofs_two {F : Nat → List Int} (h : ∀ i, (F i).length ≤ 2) : ∀ n, ofs F n ≤ 2 * n
  | 0 => Nat.le_refl _
  | n + 1 => by
    have h1 := ofs_two h n
    have h2 := h n
    rw [ofs]
    omega
/-- A row of two, as a literal makes it. -/
theorem pair_row {w : World} {B b : Nat} {x y : Int} (h : w.heap[b]? = some (.cells #[.int .i64 x, .int .i64 y] 3 (0, 0))) (hB : B ≤ b) : Row w B (.slice (some ⟨b, 0, none⟩) 2 2) [x, y] :=
  ⟨rfl, .inr ⟨b, 2, #[.int .i64 x, .int .i64 y], rfl, hB, h, Nat.le_refl _, by unfold maxLen; omega, rfl, rfl⟩⟩
abbrev prblk (x y : Int) : Obj := .cells #[.int .i64 x, .int .i64 y] 3
set_option maxRecDepth 100000 in
set_option maxHeartbeats 4000000 in
theorem spec_PointsOf_yes (m : Nat) (v : Value) (l : List Int) (w : World) (h : isSz (m : Int) = true) (ho : (m : Int) % 2 = 1) (hv : Sl w v l) (hg : good (m : Int) l = true) :
    Calls Try.prog 34 #[.int .i64 m, v] w fun e w' => ∃ v' X, e = .returned (.tuple #[v', .bool true]) ∧ RS w' w.heap.size v' (pts m (tbo m l) m).length (FLP (pts m (tbo m l) m)) X ∧ Below w.heap.size w w' := by
  obtain ⟨j0, hj, jz0, jz1, jz2⟩ := info_parts Try.infoR
  have hq := isSz_le (m : Int) h
  have hlen := (good_parts hg).1
  have hp := ctAsked_any (m : Int) v l w hv (by omega)
  rw [show ota (m : Int) l = true by simp [ota, odq, h, ho, hg]] at hp
  have HP := Lib.hid hp
  clear hp
  have HV : Hid (∀ w', Below w.heap.size w w' → Calls Try.prog 74 #[.int .i64 m, v] w' fun e w'' => ∃ v', e = .returned v' ∧ Row w'' w'.heap.size v' (fl (tbo m l) m) ∧ Below w'.heap.size w' w'') := Lib.hid fun w' hb => by
    have := plValues_any (m : Int) v l w' h (hv.below hb (Nat.le_refl _)) hg
    rw [Int.toNat_natCast] at this
    exact this
  generalize tbo m l = t at *
  have HM1 := Lib.hid (fun (y : Nat) w (hy : y < m) => fdTimes_any (m : Int) (y : Int) (y : Int) w h (by omega) (by omega) (by omega) (by omega))
  have HX0 : Hid (∀ x : Nat, ptx m x (t x) 0 = []) := Lib.hid fun _ => rfl
  have HXY : Hid (∀ x y : Nat, mulF m (y : Int) (y : Int) = t x → ptx m x (t x) (y + 1) = ptx m x (t x) y ++ [[(x : Int), (y : Int)]]) := Lib.hid fun x y h => ptx_yes h
  have HXN : Hid (∀ x y : Nat, ¬ mulF m (y : Int) (y : Int) = t x → ptx m x (t x) (y + 1) = ptx m x (t x) y) := Lib.hid fun x y h => ptx_no h
  have HXL : Hid (∀ x y : Nat, (ptx m x (t x) y).length ≤ y) := Lib.hid fun x y => ptx_len m x (t x) y
  have HPL : Hid (∀ x : Nat, (pts m t x).length ≤ 16 * x) := Lib.hid fun x => pts_len (by omega) x
  have HPS : Hid (∀ x : Nat, pts m t x ++ ptx m x (t x) m = pts m t (x + 1)) := Lib.hid fun _ => rfl
  have HP0 : Hid (pts m t 0 = []) := Lib.hid rfl
  clear h hg hv
  go_enter Try.func34, Try.ntmps34
  go_wp2_with fail
  refine HP.out.mono ?_
  rintro e w1 ⟨rfl, hb1⟩
  have HB1 := Lib.hid hb1; clear hb1
  go_wp2_with fail
  refine (HV.out _ HB1.out).mono ?_
  rintro e w2 ⟨v2, rfl, hr2, hb2⟩
  have hz1 := HB1.out.size
  have hz2 := hb2.size
  obtain ⟨g, cp, rfl, hg1, hg2⟩ := hr2.form (by rw [fl_len]; omega)
  have HR := Lib.hid (fun (i : Nat) (hi : i < m) => by
    have := hr2.cell i (by rw [fl_len]; exact hi)
    rw [fl_get _ _ _ hi] at this
    exact this)
  rw [fl_len]
  have HB2 : Hid (Below w.heap.size w w2) := Lib.hid (HB1.out.trans (hb2.mono hz1))
  have hgh : ∃ cur, w2.heap[g]? = some (.cells cur 3 (0, 0)) := by
    rcases hr2.2 with ⟨hx, _⟩ | ⟨g', cp', cur, hx, _, hh, _⟩
    · cases hx
    · injection hx with hx _ _
      injection hx with hx
      injection hx with hx _ _
      subst hx
      exact ⟨cur, hh⟩
  obtain ⟨cur, hgh⟩ := hgh
  have HGH := Lib.hid hgh
  clear hr2 hb2 hgh
  go_wp2_with fail
  go_loopw [6, 18] (fun vo vi wr => ∃ (x : Nat) (X : Nat → Value), x ≤ m ∧ vi = .int .i64 x ∧ RS wr w.heap.size vo (pts m t x).length (FLP (pts m t x)) X ∧ wr.heap[g]? = w2.heap[g]? ∧ g < wr.heap.size ∧ Below w.heap.size w wr) (fun _ vi _ => m - (intOf vi).toNat)
  case atStart => exact ⟨0, fun _ => .slice none 0 0, Nat.zero_le _, rfl, by rw [HP0.out]; exact RS.nil _ _ _ _, rfl, hg2, HB2.out⟩
  case round =>
    obtain ⟨x, X, hxm, rfl, hr, hge, hgl, hb⟩ := hrel
    obtain ⟨wo, rfl⟩ : ∃ x : World, x = wr := ⟨_, rfl⟩
    have hzo := hb.size
    by_cases hlt : x < m
    · have hc := (World.cell?_of_block (a := ⟨g, x, none⟩) hge).trans (HR.out x hlt)
      have HRO0 := Lib.hid hr
      have HBo := Lib.hid hb
      have HGE := Lib.hid hge
      have HX0x := Lib.hid (HX0.out x)
      have HXYx := Lib.hid (HXY.out x)
      have HXNx := Lib.hid (HXN.out x)
      have HXLx := Lib.hid (HXL.out x)
      have HPSx := Lib.hid (HPS.out x)
      have hpl := HPL.out x
      clear hr hb hge
      generalize ptx m x (t x) = PX at *
      generalize t x = z at *
      go_wp2_with fail
      go_loopw [6, 9] (fun vo vy ws => ∃ (y : Nat) (X : Nat → Value), y ≤ m ∧ vy = .int .i64 y ∧ RS ws w.heap.size vo (pts m t x ++ PX y).length (FLP (pts m t x ++ PX y)) X ∧ ws.heap[g]? = w2.heap[g]? ∧ g < ws.heap.size ∧ Below w.heap.size w ws) (fun _ vy _ => m - (intOf vy).toNat)
      case atStart => exact ⟨0, X, Nat.zero_le _, rfl, by rw [HX0x.out, List.append_nil]; exact HRO0.out, HGE.out, hgl, HBo.out⟩
      case round =>
        obtain ⟨y, X, hym, rfl, hr, hge, hgl, hb⟩ := hrel
        have hzs := hb.size
        obtain ⟨LL, hLL⟩ : ∃ LL, pts m t x ++ PX y = LL := ⟨_, rfl⟩
        rw [hLL] at hr
        have hxl := HXLx.out y
        have hlen : LL.length ≤ 300 := by rw [← hLL, List.length_append]; omega
        have HLL := Lib.hid hLL
        clear hLL hxl
        obtain ⟨av, cv, hvs⟩ := hr.slcP
        subst hvs
        by_cases hy : y < m
        · have HX1 := Lib.hid (fun w => HM1.out y w hy)
          have HXYy := Lib.hid (HXYx.out y)
          have HXNy := Lib.hid (HXNx.out y)
          have HRR := Lib.hid hr
          have HBB := Lib.hid hb
          have HGE' := Lib.hid hge
          clear hr hb hge
          generalize mulF (m : Int) (y : Int) (y : Int) = q at *
          by_cases hqz : q = z
          · have hqb : (q == z) = true := by simpa using hqz
            have HXE := Lib.hid (HXYy.out hqz)
            clear HXYy HXNy hqz
            go_wp2_with fail
            refine (HX1.out _).mono ?_
            rintro e w5 ⟨rfl, hb5⟩
            have hz5 := hb5.size
            have HRO := Lib.hid (HRR.out.below hb5)
            have HB5 : Hid (Below w.heap.size w w5) := Lib.hid (HBB.out.trans (hb5.mono hzs))
            have HG5 : Hid (w5.heap[g]? = w2.heap[g]?) := Lib.hid ((hb5.block g hgl).trans HGE'.out)
            have hz5' := HB5.out.size
            clear hb5
            go_wp2_with (at_builtin; refine wpList_append_own _ rfl _ _ 34 rfl w.heap.size 25 j0 (.slice none 0 0) 1 24 Try.underlying34 hj jz0 jz1 jz2 rfl (by decide) _ _ _ rfl (World.ownsRow.alloc (World.ownsRow.alloc HRO.out.outer _) _) ⟨w5.heap.size + 1, 0, none⟩ 1 1 [.slice (some ⟨w5.heap.size, 0, none⟩) 2 2] rfl rfl ?c1 ?c2 ?c3 ?c4 ?c5 ?_)
            case c1 =>
              have hc := cell_one_new (w5.alloc (prblk (x : Int) (y : Int))) (.slice (some ⟨w5.heap.size, 0, none⟩) 2 2) 25
              simpa using hc
            case c2 => first | rfl | (intro u hu; simp at hu; subst hu; rfl)
            case c3 => unfold maxLen; omega
            case c4 => omega
            case c5 => first | omega | (simp; omega)
            intro v' w6 hown hgrow _
            have hpr : Row ((w5.alloc (prblk (x : Int) (y : Int))).alloc (.cells #[.slice (some ⟨w5.heap.size, 0, none⟩) 2 2] 25)) w.heap.size (.slice (some ⟨w5.heap.size, 0, none⟩) 2 2) [(x : Int), (y : Int)] :=
              Row.alloc (pair_row (heap_alloc_new w5 _) (by omega)) _
            have hrs := ((HRO.out.alloc _).alloc _).appended hgrow hown hpr (fun i hi g hg e => by
              have h1 := ((HRO.out.inner i hi).lt g hg).2
              have h2 : w5.heap.size = g := by injection e
              omega)
            have HRS := Lib.hid (hrs.congr (FLP_app LL [(x : Int), (y : Int)]))
            have hbA : Below w.heap.size w ((w5.alloc (prblk (x : Int) (y : Int))).alloc (.cells #[.slice (some ⟨w5.heap.size, 0, none⟩) 2 2] 25)) := by have hb1 := HB5.out; (repeat' (first | (with_reducible assumption) | (with_reducible exact Below.refl _ _) | (with_reducible refine below_drewN ?_ _) | (with_reducible refine Below.drew ?_) | (with_reducible refine Below.alloc ?_ ?_ _) | (with_reducible refine Below.setCell ?_ ?_ _) | (with_reducible refine Below.trans ?_ (Below.mono (by assumption) ?_)) | (with_reducible exact Nat.le_refl _) | (with_reducible assumption) | omega | (simp; omega) | (simp; done)))
            have HB6 := Lib.hid (hbA.grown hgrow (by simp; omega) (fun g hg => (HRO.out.lt g hg).1))
            have hoff : (Value.slice av LL.length cv).ownBlock ≠ some g := HRO.out.off (HG5.out.trans HGH.out) (by decide)
            have HG6 : Hid (w6.heap[g]? = w2.heap[g]?) := Lib.hid ((hgrow.block g (by simp; omega) hoff.symm).trans ((Below.heap_alloc _ _ _ (by simp; omega)).trans ((Below.heap_alloc _ _ _ (by omega)).trans HG5.out)))
            have hg6 : g < w6.heap.size := by have := hgrow.size; simp at this; omega
            clear hown hgrow hbA hrs hpr hoff
            go_wp2
            go_roundw
            case rel => exact ⟨y + 1, _, by omega, by go_num, by rw [HXE.out, ← List.append_assoc, HLL.out, List.length_append]; exact HRS.out, HG6.out, hg6, HB6.out⟩
            case measure => simp [intOf]; omega
          · have hqb : (q == z) = false := by simpa using hqz
            have HXE := Lib.hid (HXNy.out hqz)
            clear HXYy HXNy hqz
            go_wp2_with fail
            refine (HX1.out _).mono ?_
            rintro e w5 ⟨rfl, hb5⟩
            have hz5 := hb5.size
            have HRO := Lib.hid (HRR.out.below hb5)
            have HB5 : Hid (Below w.heap.size w w5) := Lib.hid (HBB.out.trans (hb5.mono hzs))
            have HG5 : Hid (w5.heap[g]? = w2.heap[g]?) := Lib.hid ((hb5.block g hgl).trans HGE'.out)
            clear hb5
            go_wp2
            go_roundw
            case rel => exact ⟨y + 1, X, by omega, by go_num, by rw [HXE.out, HLL.out]; exact HRO.out, HG5.out, by omega, HB5.out⟩
            case measure => simp [intOf]; omega
        · obtain rfl : m = y := by omega
          have HRR := Lib.hid hr
          have HBB := Lib.hid hb
          have HGE' := Lib.hid hge
          have HE : Hid (LL = pts m t (x + 1)) := Lib.hid (by rw [← HLL.out]; exact HPSx.out)
          have hnot : ¬ ((m : Int) < (m : Int)) := by omega
          clear hr hb hge
          go_wp2
          go_roundw
          case rel => exact ⟨x + 1, X, by omega, by go_num, by rw [← HE.out]; exact HRR.out, HGE'.out, hgl, HBB.out⟩
          case measure => simp [intOf]; omega
    · obtain rfl : m = x := by omega
      have HRR := Lib.hid hr
      have HBB := Lib.hid hb
      clear hr hb
      go_wp2
      go_ret2
      exact ⟨_, X, rfl, HRR.out, HBB.out⟩
/-- What points keeps. -/
structure PM (w0 wr : World) (m g : Nat) (t : Nat → Int) (v1 : Value) : Prop where
  hp : wr.heap[w0.heap.size]? = some (pblk (m : Int) v1)
  hk : Blk wr g m
  he : Els wr g (m : Int) t m
  bel : Below w0.heap.size w0 wr
theorem PM.lt {w0 wr : World} {m g : Nat} {t : Nat → Int} {v1 : Value} (h : PM w0 wr m g t v1) : w0.heap.size < wr.heap.size := (Array.getElem?_eq_some_iff.1 h.hp).1
theorem PM.below {w0 wr w' : World} {m g B : Nat} {t : Nat → Int} {v1 : Value} (h : PM w0 wr m g t v1) (hb : Below B wr w') (hB : wr.heap.size ≤ B) : PM w0 w' m g t v1 := by
  have h1 := h.hk.lt
  have h2 := h.lt
  have h3 := h.bel.size
  exact ⟨(hb.block _ (by omega)).trans h.hp, h.hk.below hb (by omega), h.he.below hb (by omega), h.bel.trans (hb.mono (by omega))⟩
theorem PM.grown {w0 wr w' : World} {m g B n : Nat} {t : Nat → Int} {v1 v : Value} {F : Nat → List Int} {X : Nat → Value} (h : PM w0 wr m g t v1) (hr : RS wr B v n F X) (hB : w0.heap.size ≤ B) (hg : wr.grownBy w' v.ownBlock) : PM w0 w' m g t v1 := by
  obtain ⟨cur, hh, _⟩ := h.hk
  have e1 := hg.block w0.heap.size h.lt (hr.off h.hp (by decide)).symm
  have e2 := hg.block g h.hk.lt (hr.off hh (by decide)).symm
  exact ⟨e1.trans h.hp, h.hk.same e2, h.he.same e2, h.bel.grown hg h.bel.size (fun k hk => Nat.le_trans hB (hr.lt k hk).1)⟩
structure PN (w0 wr : World) (m g : Nat) (t : Nat → Int) (v1 : Value) (g2 T0 : Nat) (z : Int) : Prop where
  pm : PM w0 wr m g t v1
  hk : Blk wr g2 m
  he : Els wr g2 (m : Int) (fun j => (j : Int)) m
  ht : wr.heap[T0]? = some (eblk (m : Int) z)
theorem PN.lt {w0 wr : World} {m g g2 T0 : Nat} {t : Nat → Int} {v1 : Value} {z : Int} (h : PN w0 wr m g t v1 g2 T0 z) : T0 < wr.heap.size := (Array.getElem?_eq_some_iff.1 h.ht).1
theorem PN.below {w0 wr w' : World} {m g B g2 T0 : Nat} {t : Nat → Int} {v1 : Value} {z : Int} (h : PN w0 wr m g t v1 g2 T0 z) (hb : Below B wr w') (hB : wr.heap.size ≤ B) : PN w0 w' m g t v1 g2 T0 z := by
  have h1 := h.hk.lt
  have h2 := h.lt
  exact ⟨h.pm.below hb hB, h.hk.below hb (by omega), h.he.below hb (by omega), (hb.block _ (by omega)).trans h.ht⟩
theorem PN.grown {w0 wr w' : World} {m g B n g2 T0 : Nat} {t : Nat → Int} {v1 v : Value} {z : Int} {F : Nat → List Int} {X : Nat → Value} (h : PN w0 wr m g t v1 g2 T0 z) (hr : RS wr B v n F X) (hB : w0.heap.size ≤ B) (hg : wr.grownBy w' v.ownBlock) : PN w0 w' m g t v1 g2 T0 z := by
  obtain ⟨cur, hh, _⟩ := h.hk
  have e1 := hg.block T0 h.lt (hr.off h.ht (by decide)).symm
  have e2 := hg.block g2 h.hk.lt (hr.off hh (by decide)).symm
  exact ⟨h.pm.grown hr hB hg, h.hk.same e2, h.he.same e2, e1.trans h.ht⟩
set_option maxRecDepth 100000 in
set_option maxHeartbeats 4000000 in
/-- impl.poly.points. -/
theorem pointsE (m g0 n cap : Nat) (f : Nat → Int) (w : World) (h : isSz (m : Int) = true) (hg : g0 < w.heap.size) (he : Els w g0 (m : Int) f n) (hf : ∀ i, i < n → El (m : Int) (f i)) (hn : n ≤ 1000) :
    Calls Try.prog 73 #[polyE (m : Int) (.slice (some ⟨g0, 0, none⟩) n cap)] w fun e w' => ∃ v' X, e = .returned v' ∧ RS w' w.heap.size v' (pts m (tabF (m : Int) f n) m).length (FLP (pts m (tabF (m : Int) f n) m)) X ∧ Below w.heap.size w w' := by
  obtain ⟨j0, hj, jz0, jz1, jz2⟩ := info_parts Try.infoR
  have hq := isSz_le (m : Int) h
  have HTB : Hid (∀ w', Below w.heap.size w w' → Calls Try.prog 116 #[polyE (m : Int) (.slice (some ⟨g0, 0, none⟩) n cap)] w' fun e w'' => ∃ g', e = .returned (.slice (some ⟨g', 0, none⟩) m m) ∧ w'.heap.size ≤ g' ∧ Blk w'' g' m ∧ Els w'' g' (m : Int) (tabF (m : Int) f n) m ∧ Below w'.heap.size w' w'') := Lib.hid fun w' hb => by
    have := tableE (m : Int) g0 n cap f w' h (by have := hb.size; omega) (he.below hb hg) hf hn
    rw [Int.toNat_natCast] at this
    exact this
  have HE := Lib.hid (fun w => elements_any (m : Int) w h)
  rw [Int.toNat_natCast] at HE
  have HTE : ∀ i : Nat, i < m → El (m : Int) (tabF (m : Int) f n i) := fun i hi => hor_el h ⟨by omega, by omega⟩ hf _ (Nat.le_refl _)
  generalize tabF (m : Int) f n = t at *
  have HM1 := Lib.hid (fun (y : Nat) w (hy : y < m) => timesE (m : Int) (y : Int) (y : Int) w h (by omega) (by omega) (by omega) (by omega))
  have HEQ := Lib.hid (fun (x y : Nat) w (hx : x < m) (hy : y < m) => eq_dg' (m : Int) (mulF m (y : Int) (y : Int)) (t x) h (mulF_bd (m : Int) _ _ h (by omega) (by omega) (by omega) (by omega)).1 (mulF_bd (m : Int) _ _ h (by omega) (by omega) (by omega) (by omega)).2 (HTE x hx).1 (HTE x hx).2 w)
  have HX0 : Hid (∀ x : Nat, ptx m x (t x) 0 = []) := Lib.hid fun _ => rfl
  have HXY : Hid (∀ x y : Nat, mulF m (y : Int) (y : Int) = t x → ptx m x (t x) (y + 1) = ptx m x (t x) y ++ [[(x : Int), (y : Int)]]) := Lib.hid fun x y h => ptx_yes h
  have HXN : Hid (∀ x y : Nat, ¬ mulF m (y : Int) (y : Int) = t x → ptx m x (t x) (y + 1) = ptx m x (t x) y) := Lib.hid fun x y h => ptx_no h
  have HXL : Hid (∀ x y : Nat, (ptx m x (t x) y).length ≤ y) := Lib.hid fun x y => ptx_len m x (t x) y
  have HPL : Hid (∀ x : Nat, (pts m t x).length ≤ 16 * x) := Lib.hid fun x => pts_len (by omega) x
  have HPS : Hid (∀ x : Nat, pts m t x ++ ptx m x (t x) m = pts m t (x + 1)) := Lib.hid fun _ => rfl
  have HP0 : Hid (pts m t 0 = []) := Lib.hid rfl
  clear h hf he HTE
  go_enter Try.func73, Try.ntmps73
  go_wp2_with fail
  refine (HTB.out _ (by (repeat' (first | (with_reducible assumption) | (with_reducible exact Below.refl _ _) | (with_reducible refine below_drewN ?_ _) | (with_reducible refine Below.drew ?_) | (with_reducible refine Below.alloc ?_ ?_ _) | (with_reducible refine Below.setCell ?_ ?_ _) | (with_reducible refine Below.trans ?_ (Below.mono (by assumption) ?_)) | (with_reducible exact Nat.le_refl _) | (with_reducible assumption) | omega | (simp; omega) | (simp; done))))).mono ?_
  rintro e w1 ⟨g, rfl, hg1, hk1, he1, hb1⟩
  have hpm : PM w w1 m g t (.slice (some ⟨g0, 0, none⟩) n cap) := ⟨(hb1.block _ (by simp)).trans (heap_alloc_new w _), hk1, he1, by (repeat' (first | (with_reducible assumption) | (with_reducible exact Below.refl _ _) | (with_reducible refine below_drewN ?_ _) | (with_reducible refine Below.drew ?_) | (with_reducible refine Below.alloc ?_ ?_ _) | (with_reducible refine Below.setCell ?_ ?_ _) | (with_reducible refine Below.trans ?_ (Below.mono (by assumption) ?_)) | (with_reducible exact Nat.le_refl _) | (with_reducible assumption) | omega | (simp; omega) | (simp; done)))⟩
  have HPM := Lib.hid hpm
  clear hpm hk1 he1 hb1 hg1
  go_wp2_with fail
  go_loopw [3, 11] (fun vo vi wr => ∃ (x : Nat) (X : Nat → Value), x ≤ m ∧ vi = .int .i64 x ∧ RS wr w.heap.size vo (pts m t x).length (FLP (pts m t x)) X ∧ PM w wr m g t (.slice (some ⟨g0, 0, none⟩) n cap)) (fun _ vi _ => m - (intOf vi).toNat)
  case atStart => exact ⟨0, fun _ => .slice none 0 0, Nat.zero_le _, rfl, by rw [HP0.out]; exact RS.nil _ _ _ _, HPM.out⟩
  case round =>
    obtain ⟨x, X, hxm, rfl, hr, hpm⟩ := hrel
    obtain ⟨wo, rfl⟩ : ∃ x : World, x = wr := ⟨_, rfl⟩
    have hzo := hpm.bel.size
    by_cases hlt : x < m
    · obtain ⟨c0, c1, c2, c3, c4, c5, c6⟩ := hpm.he x hlt
      obtain ⟨p0, p1, p2, p3, pf, pl0⟩ := cells4 hpm.hp
      have hgl := hpm.hk.lt
      have HRO0 := Lib.hid hr
      have HPMo := Lib.hid hpm
      have HEQx := Lib.hid (fun y w hy => HEQ.out x y w hlt hy)
      have HX0x := Lib.hid (HX0.out x)
      have HXYx := Lib.hid (HXY.out x)
      have HXNx := Lib.hid (HXN.out x)
      have HXLx := Lib.hid (HXL.out x)
      have HPSx := Lib.hid (HPS.out x)
      have hpl := HPL.out x
      clear hr hpm
      generalize ptx m x (t x) = PX at *
      generalize t x = z at *
      go_wp2_with fail
      refine (HE.out _).mono ?_
      rintro e w3 ⟨g2, cp2, rfl, hg2, hk2, he2, hb3⟩
      have hpn : PN w w3 m g t (.slice (some ⟨g0, 0, none⟩) n cap) g2 wo.heap.size z := ⟨HPMo.out.below (B := wo.heap.size) (by (repeat' (first | (with_reducible assumption) | (with_reducible exact Below.refl _ _) | (with_reducible refine below_drewN ?_ _) | (with_reducible refine Below.drew ?_) | (with_reducible refine Below.alloc ?_ ?_ _) | (with_reducible refine Below.setCell ?_ ?_ _) | (with_reducible refine Below.trans ?_ (Below.mono (by assumption) ?_)) | (with_reducible exact Nat.le_refl _) | (with_reducible assumption) | omega | (simp; omega) | (simp; done)))) (Nat.le_refl _), hk2, he2, (hb3.block _ (by simp)).trans (heap_alloc_new wo _)⟩
      have hr3 := (HRO0.out.alloc (eblk (m : Int) z)).below hb3
      have HPN := Lib.hid hpn
      have HR3 := Lib.hid hr3
      clear hpn hr3 hk2 he2 hb3 hg2 c0 c1 c2 c3 c4 c5 c6 p0 p1 p2 p3 pf
      obtain ⟨T0, hT0⟩ : ∃ T0, wo.heap.size = T0 := ⟨_, rfl⟩
      rw [hT0] at HPN
      rw [hT0]
      go_wp2_with fail
      go_loopw [3, 20] (fun vo vy ws => ∃ (y : Nat) (X : Nat → Value), y ≤ m ∧ vy = .int .i64 y ∧ RS ws w.heap.size vo (pts m t x ++ PX y).length (FLP (pts m t x ++ PX y)) X ∧ PN w ws m g t (.slice (some ⟨g0, 0, none⟩) n cap) g2 T0 z) (fun _ vy _ => m - (intOf vy).toNat)
      case atStart => exact ⟨0, X, Nat.zero_le _, rfl, by rw [HX0x.out, List.append_nil]; exact HR3.out, HPN.out⟩
      case round =>
        obtain ⟨y, X, hym, rfl, hr, hpn⟩ := hrel
        have hzs := hpn.pm.bel.size
        obtain ⟨LL, hLL⟩ : ∃ LL, pts m t x ++ PX y = LL := ⟨_, rfl⟩
        rw [hLL] at hr
        have hxl := HXLx.out y
        have hlen : LL.length ≤ 300 := by rw [← hLL, List.length_append]; omega
        have HLL := Lib.hid hLL
        clear hLL hxl
        obtain ⟨av, cv, hvs⟩ := hr.slcP
        subst hvs
        by_cases hy : y < m
        · have HX1 := Lib.hid (fun w => HM1.out y w hy)
          have heq := fun w => HEQx.out y w hy
          have HXYy := Lib.hid (HXYx.out y)
          have HXNy := Lib.hid (HXNx.out y)
          obtain ⟨e0, e1, e2, e3, e4, e5, e6⟩ := hpn.he y hy
          obtain ⟨t0, t1, t2, t3, t4, t5, t6, tf, tl⟩ := seven hpn.ht
          have hgl2 := hpn.hk.lt
          have HRR := Lib.hid hr
          have HPNy := Lib.hid hpn
          clear hr hpn
          generalize mulF (m : Int) (y : Int) (y : Int) = q at *
          have HKEEP : Hid (∀ w', Below (wr.heap.size + 1) (wr.alloc (eblk (m : Int) (y : Int))) w' → w'.cell? ⟨wr.heap.size, 0, none⟩ = some (.int .i64 m) ∧ w'.cell? ⟨wr.heap.size, 1, none⟩ = some (.int .i64 (pr m)) ∧ w'.cell? ⟨wr.heap.size, 2, none⟩ = some (.int .i64 (pl m)) ∧ w'.cell? ⟨wr.heap.size, 3, none⟩ = some (.int .i64 (dg m (y : Int) 0)) ∧ w'.cell? ⟨wr.heap.size, 4, none⟩ = some (.int .i64 (dg m (y : Int) 1)) ∧ w'.cell? ⟨wr.heap.size, 5, none⟩ = some (.int .i64 (dg m (y : Int) 2)) ∧ w'.cell? ⟨wr.heap.size, 6, none⟩ = some (.int .i64 (dg m (y : Int) 3)) ∧ w'.cell? ⟨T0, 0, none⟩ = some (.int .i64 m) ∧ w'.cell? ⟨T0, 1, none⟩ = some (.int .i64 (pr m)) ∧ w'.cell? ⟨T0, 2, none⟩ = some (.int .i64 (pl m)) ∧ w'.cell? ⟨T0, 3, none⟩ = some (.int .i64 (dg m z 0)) ∧ w'.cell? ⟨T0, 4, none⟩ = some (.int .i64 (dg m z 1)) ∧ w'.cell? ⟨T0, 5, none⟩ = some (.int .i64 (dg m z 2)) ∧ w'.cell? ⟨T0, 6, none⟩ = some (.int .i64 (dg m z 3))) := Lib.hid fun w' hb => by
            obtain ⟨x0, x1, x2, x3, x4, x5, x6, _⟩ := seven ((hb.block wr.heap.size (by omega)).trans (heap_alloc_new wr _))
            obtain ⟨y0, y1, y2, y3, y4, y5, y6, _⟩ := seven ((hb.block T0 (by omega)).trans ((Below.heap_alloc _ _ _ (by omega)).trans HPNy.out.ht))
            exact ⟨x0, x1, x2, x3, x4, x5, x6, y0, y1, y2, y3, y4, y5, y6⟩
          by_cases hqz : q = z
          · have hqb : decide (q = z) = true := by simpa using hqz
            rw [hqb] at heq
            have HXE := Lib.hid (HXYy.out hqz)
            clear HXYy HXNy hqz hqb
            go_wp2_with fail
            go_region_held3 (fun w' => w'.cell? ⟨wr.heap.size, 0, none⟩ = some (.int .i64 m) ∧ w'.cell? ⟨wr.heap.size, 1, none⟩ = some (.int .i64 (pr m)) ∧ w'.cell? ⟨wr.heap.size, 2, none⟩ = some (.int .i64 (pl m)) ∧ w'.cell? ⟨wr.heap.size, 3, none⟩ = some (.int .i64 (dg m (y : Int) 0)) ∧ w'.cell? ⟨wr.heap.size, 4, none⟩ = some (.int .i64 (dg m (y : Int) 1)) ∧ w'.cell? ⟨wr.heap.size, 5, none⟩ = some (.int .i64 (dg m (y : Int) 2)) ∧ w'.cell? ⟨wr.heap.size, 6, none⟩ = some (.int .i64 (dg m (y : Int) 3)) ∧ w'.cell? ⟨T0, 0, none⟩ = some (.int .i64 m) ∧ w'.cell? ⟨T0, 1, none⟩ = some (.int .i64 (pr m)) ∧ w'.cell? ⟨T0, 2, none⟩ = some (.int .i64 (pl m)) ∧ w'.cell? ⟨T0, 3, none⟩ = some (.int .i64 (dg m z 0)) ∧ w'.cell? ⟨T0, 4, none⟩ = some (.int .i64 (dg m z 1)) ∧ w'.cell? ⟨T0, 5, none⟩ = some (.int .i64 (dg m z 2)) ∧ w'.cell? ⟨T0, 6, none⟩ = some (.int .i64 (dg m z 3)))
              (exact HKEEP.out _ (by (try have hb5 := HB5.out); (repeat' (first | (with_reducible assumption) | (with_reducible exact Below.refl _ _) | (with_reducible refine below_drewN ?_ _) | (with_reducible refine Below.drew ?_) | (with_reducible refine Below.alloc ?_ ?_ _) | (with_reducible refine Below.setCell ?_ ?_ _) | (with_reducible refine Below.trans ?_ (Below.mono (by assumption) ?_)) | (with_reducible exact Nat.le_refl _) | (with_reducible assumption) | omega | (simp; omega) | (simp; done)))))
              (first
              | (go_at_call 64; refine (HX1.out _).mono ?_; rintro e w5 ⟨rfl, hb5⟩; obtain ⟨hc5, hf5⟩ := bcell hb5; (try simp only [World.size_drew] at hc5 hf5); have hz5 := hb5.size; (try simp at hz5); have HB5 := Lib.hid hb5; clear hb5))
            have hb5' : Below wr.heap.size wr w5 := by have hb5 := HB5.out; (repeat' (first | (with_reducible assumption) | (with_reducible exact Below.refl _ _) | (with_reducible refine below_drewN ?_ _) | (with_reducible refine Below.drew ?_) | (with_reducible refine Below.alloc ?_ ?_ _) | (with_reducible refine Below.setCell ?_ ?_ _) | (with_reducible refine Below.trans ?_ (Below.mono (by assumption) ?_)) | (with_reducible exact Nat.le_refl _) | (with_reducible assumption) | omega | (simp; omega) | (simp; done)))
            have hz5 := hb5'.size
            have HRO := Lib.hid (HRR.out.below hb5')
            have HPN5 := Lib.hid (HPNy.out.below hb5' (Nat.le_refl _))
            clear hb5' heq e0 e1 e2 e3 e4 e5 e6 t0 t1 t2 t3 t4 t5 t6 tf
            go_wp2_with (at_builtin; refine wpList_append_own _ rfl _ _ 34 rfl w.heap.size 25 j0 (.slice none 0 0) 1 24 Try.underlying34 hj jz0 jz1 jz2 rfl (by decide) _ _ _ rfl (World.ownsRow.alloc (World.ownsRow.alloc HRO.out.outer _) _) ⟨w5.heap.size + 1, 0, none⟩ 1 1 [.slice (some ⟨w5.heap.size, 0, none⟩) 2 2] rfl rfl ?c1 ?c2 ?c3 ?c4 ?c5 ?_)
            case c1 =>
              have hc := cell_one_new (w5.alloc (prblk (x : Int) (y : Int))) (.slice (some ⟨w5.heap.size, 0, none⟩) 2 2) 25
              simpa using hc
            case c2 => first | rfl | (intro u hu; simp at hu; subst hu; rfl)
            case c3 => unfold maxLen; omega
            case c4 => omega
            case c5 => first | omega | (simp; omega)
            intro v' w6 hown hgrow _
            have hpr : Row ((w5.alloc (prblk (x : Int) (y : Int))).alloc (.cells #[.slice (some ⟨w5.heap.size, 0, none⟩) 2 2] 25)) w.heap.size (.slice (some ⟨w5.heap.size, 0, none⟩) 2 2) [(x : Int), (y : Int)] :=
              Row.alloc (pair_row (heap_alloc_new w5 _) (by omega)) _
            have hrs := ((HRO.out.alloc _).alloc _).appended hgrow hown hpr (fun i hi g hg e => by
              have h1 := ((HRO.out.inner i hi).lt g hg).2
              have h2 : w5.heap.size = g := by injection e
              omega)
            have HRS := Lib.hid (hrs.congr (FLP_app LL [(x : Int), (y : Int)]))
            have hpA : PN w ((w5.alloc (prblk (x : Int) (y : Int))).alloc (.cells #[.slice (some ⟨w5.heap.size, 0, none⟩) 2 2] 25)) m g t (.slice (some ⟨g0, 0, none⟩) n cap) g2 T0 z := HPN5.out.below (B := w5.heap.size) (by (repeat' (first | (with_reducible assumption) | (with_reducible exact Below.refl _ _) | (with_reducible refine below_drewN ?_ _) | (with_reducible refine Below.drew ?_) | (with_reducible refine Below.alloc ?_ ?_ _) | (with_reducible refine Below.setCell ?_ ?_ _) | (with_reducible refine Below.trans ?_ (Below.mono (by assumption) ?_)) | (with_reducible exact Nat.le_refl _) | (with_reducible assumption) | omega | (simp; omega) | (simp; done)))) (Nat.le_refl _)
            have HPN6 := Lib.hid (hpA.grown ((HRO.out.alloc _).alloc _) (Nat.le_refl _) hgrow)
            clear hown hgrow hpA hrs hpr
            go_wp2
            go_roundw
            case rel => exact ⟨y + 1, _, by omega, by go_num, by rw [HXE.out, ← List.append_assoc, HLL.out, List.length_append]; exact HRS.out, HPN6.out⟩
            case measure => simp [intOf]; omega
          · have hqb : decide (q = z) = false := by simpa using hqz
            rw [hqb] at heq
            have HXE := Lib.hid (HXNy.out hqz)
            clear HXYy HXNy hqz hqb
            go_wp2_with fail
            go_region_held3 (fun w' => w'.cell? ⟨wr.heap.size, 0, none⟩ = some (.int .i64 m) ∧ w'.cell? ⟨wr.heap.size, 1, none⟩ = some (.int .i64 (pr m)) ∧ w'.cell? ⟨wr.heap.size, 2, none⟩ = some (.int .i64 (pl m)) ∧ w'.cell? ⟨wr.heap.size, 3, none⟩ = some (.int .i64 (dg m (y : Int) 0)) ∧ w'.cell? ⟨wr.heap.size, 4, none⟩ = some (.int .i64 (dg m (y : Int) 1)) ∧ w'.cell? ⟨wr.heap.size, 5, none⟩ = some (.int .i64 (dg m (y : Int) 2)) ∧ w'.cell? ⟨wr.heap.size, 6, none⟩ = some (.int .i64 (dg m (y : Int) 3)) ∧ w'.cell? ⟨T0, 0, none⟩ = some (.int .i64 m) ∧ w'.cell? ⟨T0, 1, none⟩ = some (.int .i64 (pr m)) ∧ w'.cell? ⟨T0, 2, none⟩ = some (.int .i64 (pl m)) ∧ w'.cell? ⟨T0, 3, none⟩ = some (.int .i64 (dg m z 0)) ∧ w'.cell? ⟨T0, 4, none⟩ = some (.int .i64 (dg m z 1)) ∧ w'.cell? ⟨T0, 5, none⟩ = some (.int .i64 (dg m z 2)) ∧ w'.cell? ⟨T0, 6, none⟩ = some (.int .i64 (dg m z 3)))
              (exact HKEEP.out _ (by (try have hb5 := HB5.out); (repeat' (first | (with_reducible assumption) | (with_reducible exact Below.refl _ _) | (with_reducible refine below_drewN ?_ _) | (with_reducible refine Below.drew ?_) | (with_reducible refine Below.alloc ?_ ?_ _) | (with_reducible refine Below.setCell ?_ ?_ _) | (with_reducible refine Below.trans ?_ (Below.mono (by assumption) ?_)) | (with_reducible exact Nat.le_refl _) | (with_reducible assumption) | omega | (simp; omega) | (simp; done)))))
              (first
              | (go_at_call 64; refine (HX1.out _).mono ?_; rintro e w5 ⟨rfl, hb5⟩; obtain ⟨hc5, hf5⟩ := bcell hb5; (try simp only [World.size_drew] at hc5 hf5); have hz5 := hb5.size; (try simp at hz5); have HB5 := Lib.hid hb5; clear hb5))
            have hb5' : Below wr.heap.size wr w5 := by have hb5 := HB5.out; (repeat' (first | (with_reducible assumption) | (with_reducible exact Below.refl _ _) | (with_reducible refine below_drewN ?_ _) | (with_reducible refine Below.drew ?_) | (with_reducible refine Below.alloc ?_ ?_ _) | (with_reducible refine Below.setCell ?_ ?_ _) | (with_reducible refine Below.trans ?_ (Below.mono (by assumption) ?_)) | (with_reducible exact Nat.le_refl _) | (with_reducible assumption) | omega | (simp; omega) | (simp; done)))
            have HRO := Lib.hid (HRR.out.below hb5')
            have HPN5 := Lib.hid (HPNy.out.below hb5' (Nat.le_refl _))
            clear hb5' heq e0 e1 e2 e3 e4 e5 e6 t0 t1 t2 t3 t4 t5 t6 tf
            go_wp2
            go_roundw
            case rel => exact ⟨y + 1, X, by omega, by go_num, by rw [HXE.out, HLL.out]; exact HRO.out, HPN5.out⟩
            case measure => simp [intOf]; omega
        · obtain rfl : m = y := by omega
          have HRR := Lib.hid hr
          have HPNy := Lib.hid hpn.pm
          have HE : Hid (LL = pts m t (x + 1)) := Lib.hid (by rw [← HLL.out]; exact HPSx.out)
          have hnot : ¬ ((m : Int) < (m : Int)) := by omega
          clear hr hpn
          go_wp2
          go_roundw
          case rel => exact ⟨x + 1, X, by omega, by go_num, by rw [← HE.out]; exact HRR.out, HPNy.out⟩
          case measure => simp [intOf]; omega
    · obtain rfl : m = x := by omega
      have HRR := Lib.hid hr
      have HPMx := Lib.hid hpm.bel
      clear hr hpm
      go_wp2
      go_ret
      exact ⟨_, X, rfl, HRR.out, HPMx.out⟩
theorem spec_PointsOf_no (q : Int) (v : Value) (l : List Int) (w : World) (hv : Sl w v l) (hl : l.length ≤ 1048576) (hn : ota q l = false) :
    Calls Try.prog 34 #[.int .i64 q, v] w fun e w' => e = .returned (.tuple #[.slice none 0 0, .bool false]) ∧ Below w.heap.size w w' := by
  have hp := ctAsked_any q v l w hv hl
  rw [hn] at hp
  have HP := Lib.hid hp
  clear hp hv hn hl
  go_enter Try.func34, Try.ntmps34
  go_wp2_with fail
  refine HP.out.mono ?_
  rintro e w1 ⟨rfl, hb1⟩
  have HB1 : Hid (Below w.heap.size w w1) := Lib.hid (by first | exact hb1 | (repeat' (first | (with_reducible assumption) | (with_reducible exact Below.refl _ _) | (with_reducible refine below_drewN ?_ _) | (with_reducible refine Below.drew ?_) | (with_reducible refine Below.alloc ?_ ?_ _) | (with_reducible refine Below.setCell ?_ ?_ _) | (with_reducible refine Below.trans ?_ (Below.mono (by assumption) ?_)) | (with_reducible exact Nat.le_refl _) | (with_reducible assumption) | omega | (simp; omega) | (simp; done))))
  clear hb1
  go_wp2_with fail
  go_ret2
  have hb1 := HB1.out
  have hz1 := hb1.size
  exact ⟨rfl, by (repeat' (first | (with_reducible assumption) | (with_reducible exact Below.refl _ _) | (with_reducible refine below_drewN ?_ _) | (with_reducible refine Below.drew ?_) | (with_reducible refine Below.alloc ?_ ?_ _) | (with_reducible refine Below.setCell ?_ ?_ _) | (with_reducible refine Below.trans ?_ (Below.mono (by assumption) ?_)) | (with_reducible exact Nat.le_refl _) | (with_reducible assumption) | omega | (simp; omega) | (simp; done)))⟩
theorem impl_PointsOf_no (q : Int) (v : Value) (l : List Int) (w : World) (hv : Sl w v l) (hl : l.length ≤ 1048576) (hn : ota q l = false) :
    Calls Try.prog 33 #[.int .i64 q, v] w fun e w' => e = .returned (.tuple #[.slice none 0 0, .bool false]) ∧ Below w.heap.size w w' := by
  have HP := Lib.hid (validOddPoly_no q v l w hv hl hn)
  clear hv hl hn
  go_enter Try.func33, Try.ntmps33
  go_wp2_with fail
  refine HP.out.mono ?_
  rintro e w1 ⟨rfl, hb1⟩
  have HB1 : Hid (Below w.heap.size w w1) := Lib.hid (by first | exact hb1 | (repeat' (first | (with_reducible assumption) | (with_reducible exact Below.refl _ _) | (with_reducible refine below_drewN ?_ _) | (with_reducible refine Below.drew ?_) | (with_reducible refine Below.alloc ?_ ?_ _) | (with_reducible refine Below.setCell ?_ ?_ _) | (with_reducible refine Below.trans ?_ (Below.mono (by assumption) ?_)) | (with_reducible exact Nat.le_refl _) | (with_reducible assumption) | omega | (simp; omega) | (simp; done))))
  clear hb1
  go_wp2_with fail
  go_ret2
  have hb1 := HB1.out
  have hz1 := hb1.size
  exact ⟨rfl, by (repeat' (first | (with_reducible assumption) | (with_reducible exact Below.refl _ _) | (with_reducible refine below_drewN ?_ _) | (with_reducible refine Below.drew ?_) | (with_reducible refine Below.alloc ?_ ?_ _) | (with_reducible refine Below.setCell ?_ ?_ _) | (with_reducible refine Below.trans ?_ (Below.mono (by assumption) ?_)) | (with_reducible exact Nat.le_refl _) | (with_reducible assumption) | omega | (simp; omega) | (simp; done)))⟩
set_option maxRecDepth 100000 in
set_option maxHeartbeats 4000000 in
theorem impl_PointsOf_yes (m : Nat) (v : Value) (l : List Int) (w : World) (h : isSz (m : Int) = true) (ho : (m : Int) % 2 = 1) (hv : Sl w v l) (hg : good (m : Int) l = true) :
    Calls Try.prog 33 #[.int .i64 m, v] w fun e w' => ∃ v' X, e = .returned (.tuple #[v', .bool true]) ∧ RS w' w.heap.size v' (pts m (tbo m l) m).length (FLP (pts m (tbo m l) m)) X ∧ Below w.heap.size w w' := by
  have hq := isSz_le (m : Int) h
  have hlen := (good_parts hg).1
  have HP := Lib.hid (validOddPoly_yes m v l w h ho hv hg)
  have HS := Lib.hid (fun g w' (hg1 : g < w'.heap.size) (he : Els w' g (m : Int) (fun i => l.getD i 0) l.length) => pointsE m g l.length l.length (fun i => l.getD i 0) w' h hg1 he (good_el hg) (by omega))
  change Hid (∀ (g : Nat) (w' : World), _ → _ → Calls _ _ _ _ fun e w'' => ∃ v' X, e = .returned v' ∧ RS w'' w'.heap.size v' (pts m (tbo m l) m).length (FLP (pts m (tbo m l) m)) X ∧ _) at HS
  clear h hg hv
  generalize pts m (tbo m l) m = L at *
  go_enter Try.func33, Try.ntmps33
  go_wp2_with fail
  refine HP.out.mono ?_
  rintro e w1 ⟨g, rfl, hgl, he, hb1⟩
  have HE := Lib.hid he
  have HB1 := Lib.hid hb1; clear he hb1
  go_wp2_with fail
  refine (HS.out g _ (by simp; omega) (HE.out.below (B := w1.heap.size) (by (repeat' (first | (with_reducible assumption) | (with_reducible exact Below.refl _ _) | (with_reducible refine below_drewN ?_ _) | (with_reducible refine Below.drew ?_) | (with_reducible refine Below.alloc ?_ ?_ _) | (with_reducible refine Below.setCell ?_ ?_ _) | (with_reducible refine Below.trans ?_ (Below.mono (by assumption) ?_)) | (with_reducible exact Nat.le_refl _) | (with_reducible assumption) | omega | (simp; omega) | (simp; done)))) hgl)).mono ?_
  rintro e w2 ⟨v2, X, rfl, hr2, hb2⟩
  have HR2 := Lib.hid hr2; clear hr2
  have HB2 := Lib.hid hb2; clear hb2
  go_wp2
  go_ret2
  have hb1 := HB1.out
  have hz1 := hb1.size
  have hb2 := HB2.out
  exact ⟨_, X, rfl, HR2.out.mono (by simp; omega), by (repeat' (first | (with_reducible assumption) | (with_reducible exact Below.refl _ _) | (with_reducible refine below_drewN ?_ _) | (with_reducible refine Below.drew ?_) | (with_reducible refine Below.alloc ?_ ?_ _) | (with_reducible refine Below.setCell ?_ ?_ _) | (with_reducible refine Below.trans ?_ (Below.mono (by assumption) ?_)) | (with_reducible exact Nat.le_refl _) | (with_reducible assumption) | omega | (simp; omega) | (simp; done)))⟩
theorem key_PointsOf (q : Int) (l_f : List Int) (b_f : l_f.length ≤ 1048576) : ∃ (n : Nat) (F : Nat → List Int) (o : Bool), n ≤ 1048576 ∧ ofs F n ≤ 900 ∧ (∀ (w : World) (v_f : Value) (_ : Sl w v_f l_f), Calls Try.prog 34 #[.int .i64 q, v_f] w fun e w' => ∃ v X, e = .returned (.tuple #[v, .bool o]) ∧ RS w' w.heap.size v n F X ∧ Below w.heap.size w w') ∧
      (∀ (w : World) (v_f : Value) (_ : Sl w v_f l_f), Calls Try.prog 33 #[.int .i64 q, v_f] w fun e w' => ∃ v X, e = .returned (.tuple #[v, .bool o]) ∧ RS w' w.heap.size v n F X ∧ Below w.heap.size w w') := by
  cases h : ota q l_f with
  | false => exact ⟨0, fun _ => [], false, by omega, by simp [ofs], fun w v hv => (spec_PointsOf_no q v l_f w hv b_f h).mono fun _ _ ⟨he, hb⟩ => ⟨_, fun _ => .slice none 0 0, he, RS.nil _ _ _ _, hb⟩, fun w v hv => (impl_PointsOf_no q v l_f w hv b_f h).mono fun _ _ ⟨he, hb⟩ => ⟨_, fun _ => .slice none 0 0, he, RS.nil _ _ _ _, hb⟩⟩
  | true =>
    obtain ⟨m, rfl, hs, ho, hg⟩ := ota_nat h
    have hq := isSz_le (m : Int) hs
    have h1 := pts_len (m := m) (t := tbo m l_f) (by omega) m
    have h2 := ofs_two (FLP_two (pts_two m (tbo m l_f) m)) (pts m (tbo m l_f) m).length
    exact ⟨_, _, true, by omega, by omega, fun w v hv => spec_PointsOf_yes m v l_f w hs ho hv hg, fun w v hv => impl_PointsOf_yes m v l_f w hs ho hv hg⟩
end Go.Proofs.Ytimpgbifnijkkab
