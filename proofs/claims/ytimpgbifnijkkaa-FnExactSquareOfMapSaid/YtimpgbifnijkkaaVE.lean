/- SquareOfMap, of both, by contracts; the walk of its law. -/
import Derived.Test.YtimpgbifnijkkaaSH
import Derived.Test.YtimpgbifnijkkaaLS
import Derived.Test.YtimpgbifnijkkaaRM
import Derived.Deep.RegionHeld3
namespace Go.Proofs.Ytimpgbifnijkkaa
open Go.RowKit
/-- The square of a table. -/
def sqr (m : Nat) (t : Nat → Int) : Nat → List Int := fun x => fl (fun y : Nat => addF m (t x) (y : Int)) m
theorem RS.lts {w : World} {B n : Nat} {v : Value} {F : Nat → List Int} {X : Nat → Value} (h : RS w B v n F X) : (∀ g, v.ownBlock = some g → B ≤ g ∧ g < w.heap.size) ∧ ∀ i, i < n → ∀ g, (X i).ownBlock = some g → B ≤ g ∧ g < w.heap.size :=
  ⟨h.lt, h.ltX⟩
set_option maxHeartbeats 1000000 in
/-- impl.listOf at impl.squareOf[int]$1$1. -/
theorem listOf_SQ (n : Nat) (f : Nat → Int) (A0 A1 : Nat) (w : World) (hn : n ≤ 1000) (HX : ∀ (i : Nat) w', i < n → Below w.heap.size w w' → Calls Try.prog 142 #[.int .i64 i, .pointer (some ⟨A0, 0, none⟩), .pointer (some ⟨A1, 0, none⟩)] w' fun e w'' => e = .returned (.int .i64 (f i)) ∧ Below w'.heap.size w' w'') :
    Calls Try.prog 126 #[.int .i64 n, .func (.func 142) #[] #[.pointer (some ⟨A0, 0, none⟩), .pointer (some ⟨A1, 0, none⟩)]] w fun e w' => ∃ v, e = .returned v ∧ Row w' w.heap.size v (fl f n) ∧ Below w.heap.size w w' := by
  obtain ⟨i0, hi, iz0, iz1, iz2⟩ := info_parts Try.infoI
  have HXX := Lib.hid HX; clear HX
  go_enter Try.func126, Try.ntmps126
  go_wp2_with (at_make; refine wpList_make_full _ rfl _ _ 22 rfl w.heap.size 3 i0 (.int .i64 0) 1 Try.underlying22 hi iz0 iz1 .i64 .i64 _ _ n rfl rfl rfl rfl ?c3 ?c4 ?c5 ?_)
  case c3 => rw [iz2]; omega
  case c4 => unfold maxLen; omega
  case c5 => omega
  intro w1 hown hgrow
  have HR := Lib.hid (Row.madeF f hown)
  have HB := Lib.hid ((Below.refl w.heap.size w).grown hgrow (Nat.le_refl _) (fun k hk => by cases hk))
  clear hown hgrow
  go_wp2_with fail
  go_loopw [11] (fun vi wr => ∃ i : Nat, i ≤ n ∧ vi = .int .i64 i ∧ Row wr w.heap.size (.slice (some ⟨w.heap.size, 0, none⟩) n n) (fl (part0 f i) n) ∧ w.heap.size < wr.heap.size ∧ Below w.heap.size w wr) (fun vi _ => n - (intOf vi).toNat)
  case atStart =>
    refine ⟨0, Nat.zero_le _, rfl, HR.out, ?_, HB.out⟩
    have := HR.out.lt w.heap.size rfl
    omega
  case round =>
    obtain ⟨i, hi, rfl, hr, hgl, hbel⟩ := hrel
    by_cases hlt : i < n
    · have HX' := Lib.hid (HXX.out i _ hlt hbel)
      have HR := Lib.hid hr; clear hr
      have HBL := Lib.hid hbel; clear hbel
      go_wp2_with fail
      refine HX'.out.mono ?_
      rintro e w2 ⟨rfl, hb2⟩
      have hr := HR.out.below hb2
      have HB2 := Lib.hid (HBL.out.trans (hb2.mono HBL.out.size))
      have hgl2 : w.heap.size < w2.heap.size := by have := hb2.size; omega
      clear hb2
      have e2 := Row.cell (l := fl (part0 f i) n) (cap := n) (by rw [fl_len]; exact hr) i (by rw [fl_len]; exact hlt)
      have f2 := hr.frozen (by rw [fl_len]) i
      have HR' := Lib.hid (hr.store (by rw [fl_len]) i (f i))
      clear hr
      generalize (fl (part0 f i) n).getD i 0 = u at *
      have HS := Lib.hid (part0_step f i)
      generalize f i = x at *
      go_wp2
      go_roundw
      case rel =>
        refine ⟨i + 1, by omega, by go_num, ?_, by simpa using hgl2, HB2.out.setCell (Nat.le_refl _) _⟩
        rw [← HS.out, ← fl_set]
        exact HR'.out
      case measure => simp [intOf]; omega
    · obtain rfl : n = i := by omega
      go_wp2
      go_ret
      refine ⟨_, rfl, ?_, hbel⟩
      rw [← part0_all]
      exact hr

set_option maxRecDepth 100000 in
set_option maxHeartbeats 4000000 in
/-- impl.listOf at slices. -/
theorem listOf_SR (n : Nat) (F : Nat → List Int) (A0 A1 : Nat) (w : World) (hn : n ≤ 1000) (HX : ∀ (i : Nat) w', i < n → Below w.heap.size w w' → Calls Try.prog 141 #[.int .i64 i, .pointer (some ⟨A0, 0, none⟩), .pointer (some ⟨A1, 0, none⟩)] w' fun e w'' => ∃ u, e = .returned u ∧ Row w'' w'.heap.size u (F i) ∧ Below w'.heap.size w' w'') :
    Calls Try.prog 140 #[.int .i64 n, .func (.func 141) #[] #[.pointer (some ⟨A0, 0, none⟩), .pointer (some ⟨A1, 0, none⟩)]] w fun e w' => ∃ v X, e = .returned v ∧ RS w' w.heap.size v n F X ∧ Below w.heap.size w w' := by
  obtain ⟨j0, hj, jz0, jz1, jz2⟩ := info_parts Try.infoR
  have HXX := Lib.hid HX; clear HX
  go_enter Try.func140, Try.ntmps140
  go_wp2_with (at_make; go_must (refine wpList_make_full _ rfl _ _ 39 rfl w.heap.size 22 j0 (.slice none 0 0) 1 Try.underlying39 hj jz0 jz1 .i64 .i64 _ _ n rfl rfl rfl rfl ?c3 ?c4 ?c5 ?_))
  case c3 => rw [jz2]; omega
  case c4 => unfold maxLen; omega
  case c5 => simp
  intro w1 hown hgrow
  have HR1 := Lib.hid (RS.made F hown)
  have hb : Below w.heap.size w w1 := (Below.refl _ _).grown hgrow (Nat.le_refl _) (fun k hk => by cases hk)
  have HW1 := Lib.hid hb
  have hgl1 : w.heap.size < w1.heap.size := (HR1.out.lt w.heap.size rfl).2
  clear hown hgrow hb
  go_wp2_with fail
  go_loopw [11] (fun vi wr => ∃ i : Nat, i ≤ n ∧ vi = .int .i64 i ∧ (∃ X, RS wr w.heap.size (.slice (some ⟨w.heap.size, 0, none⟩) n n) n (cutF F i) X) ∧ w.heap.size < wr.heap.size ∧ Below w.heap.size w wr) (fun vi _ => n - (intOf vi).toNat)
  case atStart => exact ⟨0, Nat.zero_le _, rfl, ⟨_, HR1.out⟩, hgl1, HW1.out⟩
  case round =>
    obtain ⟨i, hi, rfl, ⟨X, hr⟩, hgl, hb⟩ := hrel
    have HR := Lib.hid hr; clear hr
    have HB := Lib.hid hb; clear hb
    by_cases hlt : i < n
    · have HX' := Lib.hid (HXX.out i _ hlt HB.out)
      have HCS := Lib.hid (cutF_step F i)
      generalize F i = l at *
      go_wp2_with fail
      refine HX'.out.mono ?_
      rintro e w2 ⟨u, rfl, hu, hb2⟩
      have hr2 := HR.out.below hb2
      have HB2 := Lib.hid (HB.out.trans (hb2.mono HB.out.size))
      have hz2 := hb2.size
      obtain ⟨g', cp', hv', _, _, hcx⟩ := hr2.form (by omega)
      cases hv'
      have hci := hcx i hlt
      have hfr := hr2.frozen i
      have HS := Lib.hid (hr2.stored hlt (hu.mono (by omega)) (fun j hj hji g' hg' e => by
        have h1 := (HR.out.ltX j hj g' hg').2
        have h2 := (hu.lt g' e).1
        omega))
      obtain ⟨a2, cp2, hu2⟩ := hu.sl.form
      subst hu2
      clear hr2 hu hb2 hcx
      go_wp2
      go_roundw
      case rel => exact ⟨i + 1, by omega, by go_num, ⟨_, by rw [← HCS.out]; exact HS.out⟩, by simp; omega, HB2.out.setCell (Nat.le_refl _) _⟩
      case measure => simp [intOf]; omega
    · obtain rfl : n = i := by omega
      go_wp2
      go_ret
      exact ⟨_, X, rfl, HR.out.all, HB.out⟩
set_option maxRecDepth 100000 in
set_option maxHeartbeats 4000000 in
/-- The closure of impl.poly.valueSquare. -/
theorem vsClo (m x y g g2 c1 c2 A Bk : Nat) (t : Nat → Int) (w : World) (h : isSz (m : Int) = true) (hx : x < m) (hy : y < m) (ht : ∀ i, i < m → El (m : Int) (t i)) (hA : w.cell? ⟨A, 0, none⟩ = some (.slice (some ⟨g, 0, none⟩) m c1)) (hB : w.cell? ⟨Bk, 0, none⟩ = some (.slice (some ⟨g2, 0, none⟩) m c2))
    (hg : g < w.heap.size) (he : Els w g (m : Int) t m) (hg2 : g2 < w.heap.size) (he2 : Els w g2 (m : Int) (fun i => (i : Int)) m) :
    Calls Try.prog 118 #[.int .i64 x, .int .i64 y, .pointer (some ⟨A, 0, none⟩), .pointer (some ⟨Bk, 0, none⟩)] w fun e w' => e = .returned (.int .i64 (addF m (t x) (y : Int))) ∧ Below w.heap.size w w' := by
  have ex := ht x hx
  have ey : El (m : Int) (y : Int) := El.nat hy
  have es := El.add h ex ey
  have HPL := Lib.hid (fun w => plusE (m : Int) (t x) (y : Int) w h ex.1 ex.2 ey.1 ey.2)
  have HNU := Lib.hid (fun w => numberE (m : Int) (addF m (t x) (y : Int)) w h es.1 es.2)
  have l0 := World.block_lt_of_cell? w _ hA
  have l1 := World.block_lt_of_cell? w _ hB
  simp only at l0 l1
  have HKEEP : Hid (∀ w', Below w.heap.size w w' → w'.cell? ⟨A, 0, none⟩ = some (.slice (some ⟨g, 0, none⟩) m c1) ∧ w'.cell? ⟨Bk, 0, none⟩ = some (.slice (some ⟨g2, 0, none⟩) m c2) ∧ w'.cell? ⟨g, x * 7, none⟩ = some (.int .i64 m) ∧ w'.cell? ⟨g, x * 7 + 1, none⟩ = some (.int .i64 (pr m)) ∧ w'.cell? ⟨g, x * 7 + 2, none⟩ = some (.int .i64 (pl m)) ∧ w'.cell? ⟨g, x * 7 + 3, none⟩ = some (.int .i64 (dg m (t x) 0)) ∧ w'.cell? ⟨g, x * 7 + 4, none⟩ = some (.int .i64 (dg m (t x) 1)) ∧ w'.cell? ⟨g, x * 7 + 5, none⟩ = some (.int .i64 (dg m (t x) 2)) ∧ w'.cell? ⟨g, x * 7 + 6, none⟩ = some (.int .i64 (dg m (t x) 3)) ∧ w'.cell? ⟨g2, y * 7, none⟩ = some (.int .i64 m) ∧ w'.cell? ⟨g2, y * 7 + 1, none⟩ = some (.int .i64 (pr m)) ∧ w'.cell? ⟨g2, y * 7 + 2, none⟩ = some (.int .i64 (pl m)) ∧ w'.cell? ⟨g2, y * 7 + 3, none⟩ = some (.int .i64 (dg m (y : Int) 0)) ∧ w'.cell? ⟨g2, y * 7 + 4, none⟩ = some (.int .i64 (dg m (y : Int) 1)) ∧ w'.cell? ⟨g2, y * 7 + 5, none⟩ = some (.int .i64 (dg m (y : Int) 2)) ∧ w'.cell? ⟨g2, y * 7 + 6, none⟩ = some (.int .i64 (dg m (y : Int) 3))) := Lib.hid fun w' hb => by
    obtain ⟨x0, x1, x2, x3, x4, x5, x6⟩ := (he.below hb hg) x hx
    obtain ⟨y0, y1, y2, y3, y4, y5, y6⟩ := (he2.below hb hg2) y hy
    exact ⟨(hb.cell (p := ⟨A, 0, none⟩) l0).trans hA, (hb.cell (p := ⟨Bk, 0, none⟩) l1).trans hB, x0, x1, x2, x3, x4, x5, x6, y0, y1, y2, y3, y4, y5, y6⟩
  have hx0 : (0 : Int) ≤ (x : Int) := by omega
  have hx1 : (x : Int) < (m : Int) := by omega
  have hy0 : (0 : Int) ≤ (y : Int) := by omega
  have hy1 : (y : Int) < (m : Int) := by omega
  clear h ht hA hB he he2 ex ey es
  generalize addF (m : Int) (t x) (y : Int) = z at *
  generalize t x = tx at *
  go_enter Try.func118, Try.ntmps118
  go_wp2_with fail
  go_region_held3 (fun w' => w'.cell? ⟨A, 0, none⟩ = some (.slice (some ⟨g, 0, none⟩) m c1) ∧ w'.cell? ⟨Bk, 0, none⟩ = some (.slice (some ⟨g2, 0, none⟩) m c2) ∧ w'.cell? ⟨g, x * 7, none⟩ = some (.int .i64 m) ∧ w'.cell? ⟨g, x * 7 + 1, none⟩ = some (.int .i64 (pr m)) ∧ w'.cell? ⟨g, x * 7 + 2, none⟩ = some (.int .i64 (pl m)) ∧ w'.cell? ⟨g, x * 7 + 3, none⟩ = some (.int .i64 (dg m tx 0)) ∧ w'.cell? ⟨g, x * 7 + 4, none⟩ = some (.int .i64 (dg m tx 1)) ∧ w'.cell? ⟨g, x * 7 + 5, none⟩ = some (.int .i64 (dg m tx 2)) ∧ w'.cell? ⟨g, x * 7 + 6, none⟩ = some (.int .i64 (dg m tx 3)) ∧ w'.cell? ⟨g2, y * 7, none⟩ = some (.int .i64 m) ∧ w'.cell? ⟨g2, y * 7 + 1, none⟩ = some (.int .i64 (pr m)) ∧ w'.cell? ⟨g2, y * 7 + 2, none⟩ = some (.int .i64 (pl m)) ∧ w'.cell? ⟨g2, y * 7 + 3, none⟩ = some (.int .i64 (dg m (y : Int) 0)) ∧ w'.cell? ⟨g2, y * 7 + 4, none⟩ = some (.int .i64 (dg m (y : Int) 1)) ∧ w'.cell? ⟨g2, y * 7 + 5, none⟩ = some (.int .i64 (dg m (y : Int) 2)) ∧ w'.cell? ⟨g2, y * 7 + 6, none⟩ = some (.int .i64 (dg m (y : Int) 3)))
    (exact HKEEP.out _ (by (try have hb15 := HB15.out); (try have hb16 := HB16.out); (repeat' (first | (with_reducible assumption) | (with_reducible exact Below.refl _ _) | (with_reducible refine below_drewN ?_ _) | (with_reducible refine Below.drew ?_) | (with_reducible refine Below.alloc ?_ ?_ _) | (with_reducible refine Below.setCell ?_ ?_ _) | (with_reducible refine Below.trans ?_ (Below.mono (by assumption) ?_)) | (with_reducible exact Nat.le_refl _) | (with_reducible assumption) | omega | (simp; omega) | (simp; done)))))
    (first
    | (go_at_call 77; refine (HPL.out _).mono ?_; rintro e w15 ⟨rfl, hb15⟩; obtain ⟨hc15, hf15⟩ := bcell hb15; (try simp only [World.size_drew] at hc15 hf15); have hz15 := hb15.size; (try simp at hz15); have HB15 := Lib.hid hb15; clear hb15)
    | (go_at_call 92; refine (HNU.out _).mono ?_; rintro e w16 ⟨rfl, hb16⟩; obtain ⟨hc16, hf16⟩ := bcell hb16; (try simp only [World.size_drew] at hc16 hf16); have hz16 := hb16.size; (try simp at hz16); have HB16 := Lib.hid hb16; clear hb16))
  all_goals
    go_wp2
    go_ret
    have hb15 := HB15.out
    have hb16 := HB16.out
    exact ⟨rfl, by (repeat' (first | (with_reducible assumption) | (with_reducible exact Below.refl _ _) | (with_reducible refine below_drewN ?_ _) | (with_reducible refine Below.drew ?_) | (with_reducible refine Below.alloc ?_ ?_ _) | (with_reducible refine Below.setCell ?_ ?_ _) | (with_reducible refine Below.trans ?_ (Below.mono (by assumption) ?_)) | (with_reducible exact Nat.le_refl _) | (with_reducible assumption) | omega | (simp; omega) | (simp; done)))⟩
set_option maxRecDepth 100000 in
set_option maxHeartbeats 4000000 in
/-- The inner closure of impl.squareOf. -/
theorem sq2Clo (x y A Bk E Xb : Nat) (z : Int) (w : World) (hE : w.cell? ⟨E, 0, none⟩ = some (.func (.func 118) #[] #[.pointer (some ⟨A, 0, none⟩), .pointer (some ⟨Bk, 0, none⟩)])) (hX : w.cell? ⟨Xb, 0, none⟩ = some (.int .i64 (x : Int)))
    (HX : ∀ w', Below w.heap.size w w' → Calls Try.prog 118 #[.int .i64 x, .int .i64 y, .pointer (some ⟨A, 0, none⟩), .pointer (some ⟨Bk, 0, none⟩)] w' fun e w'' => e = .returned (.int .i64 z) ∧ Below w'.heap.size w' w'') :
    Calls Try.prog 142 #[.int .i64 y, .pointer (some ⟨E, 0, none⟩), .pointer (some ⟨Xb, 0, none⟩)] w fun e w' => e = .returned (.int .i64 z) ∧ Below w.heap.size w w' := by
  have HXX := Lib.hid HX; clear HX
  have l0 := World.block_lt_of_cell? w _ hE
  have l1 := World.block_lt_of_cell? w _ hX
  simp only at l0 l1
  go_enter Try.func142, Try.ntmps142
  go_wp2_with fail
  refine (HXX.out _ (by (repeat' (first | (with_reducible assumption) | (with_reducible exact Below.refl _ _) | (with_reducible refine below_drewN ?_ _) | (with_reducible refine Below.drew ?_) | (with_reducible refine Below.alloc ?_ ?_ _) | (with_reducible refine Below.setCell ?_ ?_ _) | (with_reducible refine Below.trans ?_ (Below.mono (by assumption) ?_)) | (with_reducible exact Nat.le_refl _) | (with_reducible assumption) | omega | (simp; omega) | (simp; done))))).mono ?_
  rintro e w1 ⟨rfl, hb1⟩
  go_wp2
  go_ret
  exact ⟨rfl, by (repeat' (first | (with_reducible assumption) | (with_reducible exact Below.refl _ _) | (with_reducible refine below_drewN ?_ _) | (with_reducible refine Below.drew ?_) | (with_reducible refine Below.alloc ?_ ?_ _) | (with_reducible refine Below.setCell ?_ ?_ _) | (with_reducible refine Below.trans ?_ (Below.mono (by assumption) ?_)) | (with_reducible exact Nat.le_refl _) | (with_reducible assumption) | omega | (simp; omega) | (simp; done)))⟩
set_option maxRecDepth 100000 in
set_option maxHeartbeats 4000000 in
/-- The outer closure of impl.squareOf. -/
theorem sq1Clo (m x A Bk Nb E : Nat) (f : Nat → Int) (w : World) (hm : m ≤ 1000) (hN : w.cell? ⟨Nb, 0, none⟩ = some (.int .i64 (m : Int))) (hE : w.cell? ⟨E, 0, none⟩ = some (.func (.func 118) #[] #[.pointer (some ⟨A, 0, none⟩), .pointer (some ⟨Bk, 0, none⟩)]))
    (HX : ∀ (y : Nat) w', y < m → Below w.heap.size w w' → Calls Try.prog 118 #[.int .i64 x, .int .i64 y, .pointer (some ⟨A, 0, none⟩), .pointer (some ⟨Bk, 0, none⟩)] w' fun e w'' => e = .returned (.int .i64 (f y)) ∧ Below w'.heap.size w' w'') :
    Calls Try.prog 141 #[.int .i64 x, .pointer (some ⟨Nb, 0, none⟩), .pointer (some ⟨E, 0, none⟩)] w fun e w' => ∃ u, e = .returned u ∧ Row w' w.heap.size u (fl f m) ∧ Below w.heap.size w w' := by
  have l0 := World.block_lt_of_cell? w _ hN
  have l1 := World.block_lt_of_cell? w _ hE
  simp only at l0 l1
  have HLO : Hid (∀ (T : TypeId) (w' : World), Below (w.heap.size + 1) (w.alloc (.cells #[.int .i64 (x : Int)] T)) w' → Calls Try.prog 126 #[.int .i64 m, .func (.func 142) #[] #[.pointer (some ⟨E, 0, none⟩), .pointer (some ⟨w.heap.size, 0, none⟩)]] w' fun e w'' => ∃ v, e = .returned v ∧ Row w'' w'.heap.size v (fl f m) ∧ Below w'.heap.size w' w'') := Lib.hid fun T w' hb => by
    refine listOf_SQ m f E w.heap.size w' hm fun y w'' hy hb2 => ?_
    have hz := hb.size
    have hz2 := hb2.size
    simp at hz
    have hbw : Below w.heap.size w w'' := by (repeat' (first | (with_reducible assumption) | (with_reducible exact Below.refl _ _) | (with_reducible refine below_drewN ?_ _) | (with_reducible refine Below.drew ?_) | (with_reducible refine Below.alloc ?_ ?_ _) | (with_reducible refine Below.setCell ?_ ?_ _) | (with_reducible refine Below.trans ?_ (Below.mono (by assumption) ?_)) | (with_reducible exact Nat.le_refl _) | (with_reducible assumption) | omega | (simp; omega) | (simp; done)))
    refine sq2Clo x y A Bk E w.heap.size (f y) w'' ((hbw.cell (p := ⟨E, 0, none⟩) l1).trans hE) ?_ fun w3 hb3 => HX y w3 hy (hbw.trans (hb3.mono hbw.size))
    have hc : (w.alloc (.cells #[.int .i64 (x : Int)] T)).cell? ⟨w.heap.size, 0, none⟩ = some (.int .i64 (x : Int)) := at_box (heap_alloc_new w _)
    rw [hb2.cell (p := ⟨w.heap.size, 0, none⟩) (show w.heap.size < w'.heap.size by omega), hb.cell (p := ⟨w.heap.size, 0, none⟩) (show w.heap.size < w.heap.size + 1 by omega)]
    exact hc
  clear HX hE
  go_enter Try.func141, Try.ntmps141
  go_wp2_with fail
  refine (HLO.out _ _ (by (repeat' (first | (with_reducible assumption) | (with_reducible exact Below.refl _ _) | (with_reducible refine below_drewN ?_ _) | (with_reducible refine Below.drew ?_) | (with_reducible refine Below.alloc ?_ ?_ _) | (with_reducible refine Below.setCell ?_ ?_ _) | (with_reducible refine Below.trans ?_ (Below.mono (by assumption) ?_)) | (with_reducible exact Nat.le_refl _) | (with_reducible assumption) | omega | (simp; omega) | (simp; done))))).mono ?_
  rintro e w1 ⟨v1, rfl, hr1, hb1⟩
  have HR1 := Lib.hid hr1; clear hr1
  have hz1 := hb1.size
  have HB1 := Lib.hid hb1; clear hb1
  go_wp2
  go_ret
  have hb1 := HB1.out
  exact ⟨_, rfl, HR1.out.mono (by simp), by (repeat' (first | (with_reducible assumption) | (with_reducible exact Below.refl _ _) | (with_reducible refine below_drewN ?_ _) | (with_reducible refine Below.drew ?_) | (with_reducible refine Below.alloc ?_ ?_ _) | (with_reducible refine Below.setCell ?_ ?_ _) | (with_reducible refine Below.trans ?_ (Below.mono (by assumption) ?_)) | (with_reducible exact Nat.le_refl _) | (with_reducible assumption) | omega | (simp; omega) | (simp; done)))⟩
set_option maxRecDepth 100000 in
set_option maxHeartbeats 4000000 in
/-- impl.squareOf. -/
theorem squareOfS (m A Bk : Nat) (F : Nat → Nat → Int) (w : World) (hm : m ≤ 1000)
    (HX : ∀ (x y : Nat) w', x < m → y < m → Below w.heap.size w w' → Calls Try.prog 118 #[.int .i64 x, .int .i64 y, .pointer (some ⟨A, 0, none⟩), .pointer (some ⟨Bk, 0, none⟩)] w' fun e w'' => e = .returned (.int .i64 (F x y)) ∧ Below w'.heap.size w' w'') :
    Calls Try.prog 117 #[.int .i64 m, .func (.func 118) #[] #[.pointer (some ⟨A, 0, none⟩), .pointer (some ⟨Bk, 0, none⟩)]] w fun e w' => ∃ v X, e = .returned v ∧ RS w' w.heap.size v m (fun x => fl (F x) m) X ∧ Below w.heap.size w w' := by
  have HLO : Hid (∀ (T1 T2 : TypeId) (w' : World), Below (w.heap.size + 2) ((w.alloc (.cells #[.int .i64 (m : Int)] T1)).alloc (.cells #[.func (.func 118) #[] #[.pointer (some ⟨A, 0, none⟩), .pointer (some ⟨Bk, 0, none⟩)]] T2)) w' → Calls Try.prog 140 #[.int .i64 m, .func (.func 141) #[] #[.pointer (some ⟨w.heap.size, 0, none⟩), .pointer (some ⟨w.heap.size + 1, 0, none⟩)]] w' fun e w'' => ∃ v X, e = .returned v ∧ RS w'' w'.heap.size v m (fun x => fl (F x) m) X ∧ Below w'.heap.size w' w'') := Lib.hid fun T1 T2 w' hb => by
    obtain ⟨t0, t1⟩ := two w (.cells #[.int .i64 (m : Int)] T1) (.cells #[.func (.func 118) #[] #[.pointer (some ⟨A, 0, none⟩), .pointer (some ⟨Bk, 0, none⟩)]] T2)
    refine listOf_SR m (fun x => fl (F x) m) w.heap.size (w.heap.size + 1) w' hm fun x w'' hx hb2 => ?_
    have hz := hb.size
    have hz2 := hb2.size
    simp at hz
    have hbw : Below w.heap.size w w'' := by (repeat' (first | (with_reducible assumption) | (with_reducible exact Below.refl _ _) | (with_reducible refine below_drewN ?_ _) | (with_reducible refine Below.drew ?_) | (with_reducible refine Below.alloc ?_ ?_ _) | (with_reducible refine Below.setCell ?_ ?_ _) | (with_reducible refine Below.trans ?_ (Below.mono (by assumption) ?_)) | (with_reducible exact Nat.le_refl _) | (with_reducible assumption) | omega | (simp; omega) | (simp; done)))
    refine sq1Clo m x A Bk w.heap.size (w.heap.size + 1) (F x) w'' hm ?_ ?_ fun y w3 hy hb3 => HX x y w3 hx hy (hbw.trans (hb3.mono hbw.size))
    · exact at_box ((hb2.block _ (by omega)).trans ((hb.block _ (by omega)).trans t0))
    · exact at_box ((hb2.block _ (by omega)).trans ((hb.block _ (by omega)).trans t1))
  clear HX
  generalize (fun x => fl (F x) m) = G at *
  go_enter Try.func117, Try.ntmps117
  go_wp2_with fail
  refine (HLO.out _ _ _ (by (repeat' (first | (with_reducible assumption) | (with_reducible exact Below.refl _ _) | (with_reducible refine below_drewN ?_ _) | (with_reducible refine Below.drew ?_) | (with_reducible refine Below.alloc ?_ ?_ _) | (with_reducible refine Below.setCell ?_ ?_ _) | (with_reducible refine Below.trans ?_ (Below.mono (by assumption) ?_)) | (with_reducible exact Nat.le_refl _) | (with_reducible assumption) | omega | (simp; omega) | (simp; done))))).mono ?_
  rintro e w1 ⟨v1, X, rfl, hr1, hb1⟩
  have HR1 := Lib.hid hr1; clear hr1
  have hz1 := hb1.size
  have HB1 := Lib.hid hb1; clear hb1
  go_wp2
  go_ret
  have hb1 := HB1.out
  exact ⟨_, X, rfl, HR1.out.mono (by simp; try omega), by (repeat' (first | (with_reducible assumption) | (with_reducible exact Below.refl _ _) | (with_reducible refine below_drewN ?_ _) | (with_reducible refine Below.drew ?_) | (with_reducible refine Below.alloc ?_ ?_ _) | (with_reducible refine Below.setCell ?_ ?_ _) | (with_reducible refine Below.trans ?_ (Below.mono (by assumption) ?_)) | (with_reducible exact Nat.le_refl _) | (with_reducible assumption) | omega | (simp; omega) | (simp; done)))⟩
theorem region_cutV {P : Program} {c : Code} {Q : Exit → Act → World → Prop} {a : Act} {w : World} (R : Act → Act → World → Prop) (h0 : ∀ K : Act → World → Prop, (∀ a' w', R a a' w' → K a' w') → c.wp P (Exit.then K Q) a w) (h : ∀ a' w', R a a' w' → Q .normal a' w') : c.wp P Q a w :=
  Code.wp_mono (fun e a' w' hr => by
    cases e with
    | normal => exact h a' w' hr
    | _ => exact hr) (h0 (fun a' w' => R a a' w') fun _ _ h => h)
theorem heap_alloc_at {w : World} {o : Obj} {b : Nat} (h : b = w.heap.size) : (w.alloc o).heap[b]? = some o := by
  subst h
  exact heap_alloc_new w o
theorem box_set {w : World} {b : Nat} {T : TypeId} {v0 v : Value} (h : w.heap[b]? = some (.cells #[v0] T (0, 0))) : (w.setCell ⟨b, 0, none⟩ v).heap[b]? = some (.cells #[v] T (0, 0)) := heap_setCell_same w b 0 _ _ v h
set_option maxRecDepth 100000 in
set_option maxHeartbeats 8000000 in
/-- impl.poly.valueSquare. -/
theorem valueSquareT (m : Nat) (v : Value) (t : Nat → Int) (w : World) (h : isSz (m : Int) = true) (hv : IsP w v m t) (ht : ∀ i, i < m → El (m : Int) (t i)) :
    Calls Try.prog 81 #[polyE (m : Int) v] w fun e w' => ∃ v' X, e = .returned v' ∧ RS w' w.heap.size v' m (sqr m t) X ∧ Below w.heap.size w w' := by
  have hq := isSz_le (m : Int) h
  have HTB := Lib.hid (fun w' (hb : Below w.heap.size w w') => tableT m v t w' h (hv.below hb (Nat.le_refl _)))
  have HEL := Lib.hid (fun w => elements_any (m : Int) w h)
  rw [Int.toNat_natCast] at HEL
  have HSQ : Hid (∀ (g g2 c2 A Bk : Nat) (w' : World), w'.cell? ⟨A, 0, none⟩ = some (.slice (some ⟨g, 0, none⟩) m m) → w'.cell? ⟨Bk, 0, none⟩ = some (.slice (some ⟨g2, 0, none⟩) m c2) → g < w'.heap.size → Els w' g (m : Int) t m → g2 < w'.heap.size → Els w' g2 (m : Int) (fun i => (i : Int)) m → Calls Try.prog 117 #[.int .i64 m, .func (.func 118) #[] #[.pointer (some ⟨A, 0, none⟩), .pointer (some ⟨Bk, 0, none⟩)]] w' fun e w'' => ∃ v X, e = .returned v ∧ RS w'' w'.heap.size v m (sqr m t) X ∧ Below w'.heap.size w' w'') := Lib.hid fun g g2 c2 A Bk w' hA hB hg he hg2 he2 =>
    squareOfS m A Bk (fun x y => addF m (t x) (y : Int)) w' (by omega) fun x y w'' hx hy hb => vsClo m x y g g2 m c2 A Bk t w'' h hx hy ht ((hb.cell (p := ⟨A, 0, none⟩) (World.block_lt_of_cell? w' _ hA)).trans hA) ((hb.cell (p := ⟨Bk, 0, none⟩) (World.block_lt_of_cell? w' _ hB)).trans hB) (by have := hb.size; omega) (he.below hb hg) (by have := hb.size; omega) (he2.below hb hg2)
  obtain ⟨a0, k0, c0, rfl⟩ := hv.slice
  clear h hv ht
  generalize sqr m t = S at *
  have HKEEP : Hid (∀ w', Below (w.heap.size + 1) (w.alloc (pblk (m : Int) (.slice a0 k0 c0))) w' → w'.cell? ⟨w.heap.size, 0, none⟩ = some (.int .i64 m) ∧ w'.cell? ⟨w.heap.size, 1, none⟩ = some (.int .i64 (pr m)) ∧ w'.cell? ⟨w.heap.size, 2, none⟩ = some (.int .i64 (pl m)) ∧ w'.cell? ⟨w.heap.size, 3, none⟩ = some (.slice a0 k0 c0)) := Lib.hid fun w' hb => by
    obtain ⟨x0, x1, x2, x3, _⟩ := cells4 ((hb.block _ (by omega)).trans (heap_alloc_new w _))
    exact ⟨x0, x1, x2, x3⟩
  go_enter Try.func81, Try.ntmps81
  go_wp2_with fail
  refine region_cutV (fun a a' w' => ∃ (g g2 c2 A Bk : Nat) (u5 u6 u7 u8 u9 : Value), a' = (((((((a.put (some 3) (.pointer (some ⟨A, 0, none⟩))).put (some 4) (.pointer (some ⟨Bk, 0, none⟩))).put (some 5) (u5)).put (some 6) (u6)).put (some 7) (u7)).put (some 8) (u8)).put (some 9) (u9)) ∧ w'.cell? ⟨A, 0, none⟩ = some (.slice (some ⟨g, 0, none⟩) m m) ∧ w'.cell? ⟨Bk, 0, none⟩ = some (.slice (some ⟨g2, 0, none⟩) m c2) ∧ g < w'.heap.size ∧ Els w' g (m : Int) t m ∧ g2 < w'.heap.size ∧ Els w' g2 (m : Int) (fun i => (i : Int)) m ∧ Below (w.heap.size + 1) (w.alloc (pblk (m : Int) (.slice a0 k0 c0))) w') ?_ ?_
  · intro KC hKC
    have HKC := Lib.hid hKC
    clear hKC
    go_region_held3 (fun w' => w'.cell? ⟨w.heap.size, 0, none⟩ = some (.int .i64 m) ∧ w'.cell? ⟨w.heap.size, 1, none⟩ = some (.int .i64 (pr m)) ∧ w'.cell? ⟨w.heap.size, 2, none⟩ = some (.int .i64 (pl m)) ∧ w'.cell? ⟨w.heap.size, 3, none⟩ = some (.slice a0 k0 c0))
      (exact HKEEP.out _ (by (try have hb6 := HB6.out); (try have hb9 := HB9.out); (repeat' (first | (with_reducible assumption) | (with_reducible exact Below.refl _ _) | (with_reducible refine below_drewN ?_ _) | (with_reducible refine Below.drew ?_) | (with_reducible refine Below.alloc ?_ ?_ _) | (with_reducible refine Below.setCell ?_ ?_ _) | (with_reducible refine Below.trans ?_ (Below.mono (by assumption) ?_)) | (with_reducible exact Nat.le_refl _) | (with_reducible assumption) | omega | (simp; omega) | (simp; done)))))
      (first
      | (go_at_call 116; refine (HTB.out _ (by (repeat' (first | (with_reducible assumption) | (with_reducible exact Below.refl _ _) | (with_reducible refine below_drewN ?_ _) | (with_reducible refine Below.drew ?_) | (with_reducible refine Below.alloc ?_ ?_ _) | (with_reducible refine Below.setCell ?_ ?_ _) | (with_reducible refine Below.trans ?_ (Below.mono (by assumption) ?_)) | (with_reducible exact Nat.le_refl _) | (with_reducible assumption) | omega | (simp; omega) | (simp; done))))).mono ?_; rintro e w6 ⟨g6, rfl, hg6, hk6, he6, hb6⟩; (try simp at hg6); have hgl6 := hk6.lt; have HE6 := Lib.hid he6; clear he6 hk6; obtain ⟨hc6, hf6⟩ := bcell hb6; (try simp only [World.size_drew] at hc6 hf6); have hz6 := hb6.size; (try simp at hz6); have HB6 := Lib.hid hb6; clear hb6; (try have l6 : w.heap.size < w6.heap.size := (by omega)); (try have l6b : w.heap.size + 1 < w6.heap.size := (by omega)); (try have l6c : w.heap.size + 2 < w6.heap.size := (by omega)))
      | (go_at_call 115; refine (HEL.out _).mono ?_; rintro e w9 ⟨g9, c9, rfl, hg9, hk9, he9, hb9⟩; (try simp at hg9); have hgl9 := hk9.lt; have HE9 := Lib.hid he9; clear he9 hk9; obtain ⟨hc9, hf9⟩ := bcell hb9; (try simp only [World.size_drew] at hc9 hf9); have hz9 := hb9.size; (try simp at hz9); have HB9 := Lib.hid hb9; clear hb9; (try have l9 : w.heap.size < w9.heap.size := (by omega)); (try have l9b : w.heap.size + 1 < w9.heap.size := (by omega)); (try have l9c : w.heap.size + 2 < w9.heap.size := (by omega)); (try have l9_6 : w6.heap.size < w9.heap.size := (by omega)); (try have l9_6b : w6.heap.size + 1 < w9.heap.size := (by omega))))
    all_goals
      have hb6 := HB6.out
      have hb9 := HB9.out
      have he6 := HE6.out
      have he9 := HE9.out
      refine HKC.out _ _ ?_
      simp only [Act.put, List.setIfInBounds_toArray, List.set_cons_zero, List.set_cons_succ]
      refine ⟨g6, g9, c9, _, _, _, _, _, _, _, rfl, ?_, ?_, ?_, ?_, ?_, ?_, ?_⟩
      · refine at_box (T := 47) ?_
        (repeat' (first | (with_reducible exact heap_alloc_new _ _) | (with_reducible refine box_set (v0 := .slice none 0 0) ?_) | (refine heap_alloc_at ?_; first | rfl | (simp; done) | omega | (simp; omega)) | (with_reducible refine (heap_setCell_other _ _ _ _ ?_).trans ?_) | (with_reducible refine (Below.heap_alloc _ _ _ ?_).trans ?_) | (with_reducible refine (drew_heap' _ _).trans ?_) | (with_reducible refine (hb9.block _ ?_).trans ?_) | (with_reducible refine (hb6.block _ ?_).trans ?_) | omega | (simp; done) | (simp; omega)))
      · refine at_box (T := 47) ?_
        (repeat' (first | (with_reducible exact heap_alloc_new _ _) | (with_reducible refine box_set (v0 := .slice none 0 0) ?_) | (refine heap_alloc_at ?_; first | rfl | (simp; done) | omega | (simp; omega)) | (with_reducible refine (heap_setCell_other _ _ _ _ ?_).trans ?_) | (with_reducible refine (Below.heap_alloc _ _ _ ?_).trans ?_) | (with_reducible refine (drew_heap' _ _).trans ?_) | (with_reducible refine (hb9.block _ ?_).trans ?_) | (with_reducible refine (hb6.block _ ?_).trans ?_) | omega | (simp; done) | (simp; omega)))
      · first | omega | (simp; omega)
      · refine he6.same ?_
        (repeat' (first | (with_reducible rfl) | (with_reducible refine (heap_setCell_other _ _ _ _ ?_).trans ?_) | (with_reducible refine (Below.heap_alloc _ _ _ ?_).trans ?_) | (with_reducible refine (drew_heap' _ _).trans ?_) | (with_reducible refine (hb9.block _ ?_).trans ?_) | omega | (simp; omega)))
      · first | omega | (simp; omega)
      · refine he9.same ?_
        (repeat' (first | (with_reducible rfl) | (with_reducible refine (heap_setCell_other _ _ _ _ ?_).trans ?_) | (with_reducible refine (Below.heap_alloc _ _ _ ?_).trans ?_) | (with_reducible refine (drew_heap' _ _).trans ?_) | omega | (simp; omega)))
      · (repeat' (first | (with_reducible assumption) | (with_reducible exact Below.refl _ _) | (with_reducible refine below_drewN ?_ _) | (with_reducible refine Below.drew ?_) | (with_reducible refine Below.alloc ?_ ?_ _) | (with_reducible refine Below.setCell ?_ ?_ _) | (with_reducible refine Below.trans ?_ (Below.mono (by assumption) ?_)) | (with_reducible exact Nat.le_refl _) | (with_reducible assumption) | omega | (simp; omega) | (simp; done)))
  · rintro _ W4 ⟨g, g2, c2, A, Bk, u5, u6, u7, u8, u9, rfl, hA, hB, hg, he, hg2, he2, hbW⟩
    simp only [Act.put, List.setIfInBounds_toArray, List.set_cons_zero, List.set_cons_succ]
    obtain ⟨x0, x1, x2, x3⟩ := HKEEP.out _ hbW
    have hzW := hbW.size
    simp at hzW
    have HS := Lib.hid (HSQ.out g g2 c2 A Bk W4 hA hB hg he hg2 he2)
    have HBW : Hid (Below w.heap.size w W4) := Lib.hid (by (repeat' (first | (with_reducible assumption) | (with_reducible exact Below.refl _ _) | (with_reducible refine below_drewN ?_ _) | (with_reducible refine Below.drew ?_) | (with_reducible refine Below.alloc ?_ ?_ _) | (with_reducible refine Below.setCell ?_ ?_ _) | (with_reducible refine Below.trans ?_ (Below.mono (by assumption) ?_)) | (with_reducible exact Nat.le_refl _) | (with_reducible assumption) | omega | (simp; omega) | (simp; done))))
    clear hA hB hg he hg2 he2 hbW HSQ HTB HEL HKEEP
    go_wp2_with fail
    refine HS.out.mono ?_
    rintro e w5 ⟨v5, X, rfl, hr5, hb5⟩
    have HR5 := Lib.hid (hr5.mono (B' := w.heap.size) (by omega))
    have HB5 : Hid (Below w.heap.size w w5) := Lib.hid (by have hb1 := HBW.out; (repeat' (first | (with_reducible assumption) | (with_reducible exact Below.refl _ _) | (with_reducible refine below_drewN ?_ _) | (with_reducible refine Below.drew ?_) | (with_reducible refine Below.alloc ?_ ?_ _) | (with_reducible refine Below.setCell ?_ ?_ _) | (with_reducible refine Below.trans ?_ (Below.mono (by assumption) ?_)) | (with_reducible exact Nat.le_refl _) | (with_reducible assumption) | omega | (simp; omega) | (simp; done))))
    clear hr5 hb5
    go_wp2
    go_ret
    exact ⟨_, X, rfl, HR5.out, HB5.out⟩
theorem spec_SquareOfMap_no1 (q : Int) (v : Value) (l : List Int) (w : World) (hv : Sl w v l) (hl : l.length ≤ 1048576) (hg : (isSz q && good q l) = false) :
    Calls Try.prog 35 #[.int .i64 q, v] w fun e w' => e = .returned (.tuple #[.slice none 0 0, .bool false]) ∧ Below w.heap.size w w' := by
  have hp := plGood_any q v l w hv hl
  rw [hg] at hp
  have HP := Lib.hid hp
  clear hp hg hv hl
  go_enter Try.func35, Try.ntmps35
  go_wp2_with fail
  refine HP.out.mono ?_
  rintro e w1 ⟨rfl, hb1⟩
  go_wp2
  go_ret2
  exact ⟨rfl, hb1⟩
set_option maxRecDepth 100000 in
set_option maxHeartbeats 4000000 in
theorem spec_SquareOfMap_no2 (m : Nat) (v : Value) (l : List Int) (w : World) (h : isSz (m : Int) = true) (hv : Sl w v l) (hg : good (m : Int) l = true) (hd : dis (tbl m l) m = false) :
    Calls Try.prog 35 #[.int .i64 m, v] w fun e w' => e = .returned (.tuple #[.slice none 0 0, .bool false]) ∧ Below w.heap.size w w' := by
  have hq := isSz_le (m : Int) h
  have hlen := (good_parts hg).1
  have hp := plGood_any (m : Int) v l w hv (by omega)
  rw [h, hg] at hp
  have HP := Lib.hid hp
  have HV : Hid (∀ w', Below w.heap.size w w' → Calls Try.prog 42 #[.int .i64 m, v] w' fun e w'' => ∃ v', e = .returned v' ∧ Row w'' w'.heap.size v' (fl (tbl m l) m) ∧ Below w'.heap.size w' w'') := Lib.hid fun w' hb => by
    have := plValues_any (m : Int) v l w' h (hv.below hb (Nat.le_refl _)) hg
    rw [Int.toNat_natCast] at this
    exact this
  have HDS : Hid (∀ v' w' B, Row w' B v' (fl (tbl m l) m) → Calls Try.prog 79 #[v'] w' fun e w'' => e = .returned (.bool false) ∧ w' = w'') := Lib.hid fun v' w' B hr => by
    have := peDoes_any v' (tbl m l) m w' hr.sl hr.capv (by omega)
    rw [hd] at this
    exact this
  clear hp hg hv h hd
  generalize tbl m l = t at *
  go_enter Try.func35, Try.ntmps35
  go_wp2_with fail
  refine HP.out.mono ?_
  rintro e w1 ⟨rfl, hb1⟩
  have hz_hb1 := hb1.size; (try simp at hz_hb1)
  have HB1 := Lib.hid hb1; clear hb1
  go_wp2_with fail
  refine (HV.out _ HB1.out).mono ?_
  rintro e w3 ⟨v3, rfl, hr3, hb3⟩
  have HR3 := Lib.hid hr3
  have HB3 : Hid (Below w.heap.size w w3) := Lib.hid (HB1.out.trans (hb3.mono hz_hb1)); clear hb3 hr3
  go_wp2_with fail
  refine (HDS.out _ _ _ HR3.out).mono ?_
  rintro e w4 ⟨rfl, rfl⟩
  go_wp2
  go_ret2
  exact ⟨rfl, HB3.out⟩
theorem spec_SquareOfMap_no (q : Int) (v : Value) (l : List Int) (w : World) (hv : Sl w v l) (hl : l.length ≤ 1048576) (hg : prm q l = false) :
    Calls Try.prog 35 #[.int .i64 q, v] w fun e w' => e = .returned (.tuple #[.slice none 0 0, .bool false]) ∧ Below w.heap.size w w' := by
  cases hs : isSz q && good q l with
  | false => exact spec_SquareOfMap_no1 q v l w hv hl hs
  | true =>
    have hs2 := hs
    simp only [Bool.and_eq_true] at hs2
    have hq := isSz_le q hs2.1
    obtain ⟨m, rfl⟩ := Int.eq_ofNat_of_zero_le (show 0 ≤ q by omega)
    unfold prm at hg
    rw [hs, Bool.true_and, Int.toNat_natCast] at hg
    exact spec_SquareOfMap_no2 m v l w hs2.1 hv hs2.2 hg
theorem impl_SquareOfMap_no (q : Int) (v : Value) (l : List Int) (w : World) (hv : Sl w v l) (hl : l.length ≤ 1048576) (hg : prm q l = false) :
    Calls Try.prog 36 #[.int .i64 q, v] w fun e w' => e = .returned (.tuple #[.slice none 0 0, .bool false]) ∧ Below w.heap.size w w' := by
  have HP := Lib.hid (vpm_no q v l w hv hl hg)
  clear hg hv hl
  go_enter Try.func36, Try.ntmps36
  go_wp2_with fail
  refine HP.out.mono ?_
  rintro e w1 ⟨rfl, hb1⟩
  have hz_hb1 := hb1.size; (try simp at hz_hb1)
  have HB1 := Lib.hid hb1; clear hb1
  go_wp2_with fail
  go_ret2
  have hb1 := HB1.out
  exact ⟨rfl, by (repeat' (first | (with_reducible assumption) | (with_reducible exact Below.refl _ _) | (with_reducible refine below_drewN ?_ _) | (with_reducible refine Below.drew ?_) | (with_reducible refine Below.alloc ?_ ?_ _) | (with_reducible refine Below.setCell ?_ ?_ _) | (with_reducible refine Below.trans ?_ (Below.mono (by assumption) ?_)) | (with_reducible exact Nat.le_refl _) | (with_reducible assumption) | omega | (simp; omega) | (simp; done)))⟩
set_option maxRecDepth 100000 in
set_option maxHeartbeats 4000000 in
theorem impl_SquareOfMap_yes (m : Nat) (v : Value) (l : List Int) (w : World) (h : isSz (m : Int) = true) (hv : Sl w v l) (hg : good (m : Int) l = true) (hd : dis (tbl m l) m = true) :
    Calls Try.prog 36 #[.int .i64 m, v] w fun e w' => ∃ v' X, e = .returned (.tuple #[v', .bool true]) ∧ RS w' w.heap.size v' m (sqr m (tbl m l)) X ∧ Below w.heap.size w w' := by
  have HP : Hid (Calls Try.prog 80 #[.int .i64 m, v] w fun e w' => ∃ v', e = .returned (.tuple #[polyE (m : Int) v', .bool true]) ∧ IsP w' v' m (tbl m l) ∧ Below w.heap.size w w') := Lib.hid ((vpm_yes m v l w h hv hg hd).mono fun _ _ ⟨g, h1, _, h3, h4, h5⟩ => ⟨_, h1, ⟨g, _, _, _, rfl, h3, h4, tb_goodE h hg⟩, h5⟩)
  have HS := Lib.hid (fun v' w' (hp : IsP w' v' m (tbl m l)) => valueSquareT m v' (tbl m l) w' h hp (tbl_el h hg))
  clear h hv hg hd
  generalize sqr m (tbl m l) = S at *
  generalize tbl m l = t at *
  go_enter Try.func36, Try.ntmps36
  go_wp2_with fail
  refine HP.out.mono ?_
  rintro e w1 ⟨v1, rfl, hp1, hb1⟩
  obtain ⟨a1, k1, c1, rfl⟩ := hp1.slice
  have HP1 := Lib.hid hp1; clear hp1
  have hz_hb1 := hb1.size; (try simp at hz_hb1)
  have HB1 := Lib.hid hb1; clear hb1
  go_wp2_with fail
  refine (HS.out _ _ (HP1.out.below (B := w1.heap.size) (by (repeat' (first | (with_reducible assumption) | (with_reducible exact Below.refl _ _) | (with_reducible refine below_drewN ?_ _) | (with_reducible refine Below.drew ?_) | (with_reducible refine Below.alloc ?_ ?_ _) | (with_reducible refine Below.setCell ?_ ?_ _) | (with_reducible refine Below.trans ?_ (Below.mono (by assumption) ?_)) | (with_reducible exact Nat.le_refl _) | (with_reducible assumption) | omega | (simp; omega) | (simp; done)))) (Nat.le_refl _))).mono ?_
  rintro e w2 ⟨v2, X, rfl, hr2, hb2⟩
  have HR2 := Lib.hid hr2; clear hr2
  have hz2 := hb2.size
  have HB2 : Hid (Below w.heap.size w w2) := Lib.hid (by have hb1 := HB1.out; (repeat' (first | (with_reducible assumption) | (with_reducible exact Below.refl _ _) | (with_reducible refine below_drewN ?_ _) | (with_reducible refine Below.drew ?_) | (with_reducible refine Below.alloc ?_ ?_ _) | (with_reducible refine Below.setCell ?_ ?_ _) | (with_reducible refine Below.trans ?_ (Below.mono (by assumption) ?_)) | (with_reducible exact Nat.le_refl _) | (with_reducible assumption) | omega | (simp; omega) | (simp; done)))); clear hb2
  go_wp2
  go_ret2
  exact ⟨_, X, rfl, HR2.out.mono (by first | omega | (simp; omega)), HB2.out⟩
set_option maxRecDepth 100000 in
set_option maxHeartbeats 4000000 in
theorem spec_SquareOfMap_yes (m : Nat) (v : Value) (l : List Int) (w : World) (h : isSz (m : Int) = true) (hv : Sl w v l) (hg : good (m : Int) l = true) (hd : dis (tbl m l) m = true) :
    Calls Try.prog 35 #[.int .i64 m, v] w fun e w' => ∃ v' X, e = .returned (.tuple #[v', .bool true]) ∧ RS w' w.heap.size v' m (sqr m (tbl m l)) X ∧ Below w.heap.size w w' := by
  obtain ⟨i0, hi, iz0, iz1, iz2⟩ := info_parts Try.infoI
  obtain ⟨j0, hj, jz0, jz1, jz2⟩ := info_parts Try.infoR
  have hq := isSz_le (m : Int) h
  have hlen := (good_parts hg).1
  have hp := plGood_any (m : Int) v l w hv (by omega)
  rw [h, hg] at hp
  have HP := Lib.hid hp
  have HV : Hid (∀ w', Below w.heap.size w w' → Calls Try.prog 42 #[.int .i64 m, v] w' fun e w'' => ∃ v', e = .returned v' ∧ Row w'' w'.heap.size v' (fl (tbl m l) m) ∧ Below w'.heap.size w' w'') := Lib.hid fun w' hb => by
    have := plValues_any (m : Int) v l w' h (hv.below hb (Nat.le_refl _)) hg
    rw [Int.toNat_natCast] at this
    exact this
  have HDS : Hid (∀ v' w' B, Row w' B v' (fl (tbl m l) m) → Calls Try.prog 79 #[v'] w' fun e w'' => e = .returned (.bool true) ∧ w' = w'') := Lib.hid fun v' w' B hr => by
    have := peDoes_any v' (tbl m l) m w' hr.sl hr.capv (by omega)
    rw [hd] at this
    exact this
  have hte := tbl_el h hg
  have HPL := Lib.hid (fun (x y : Nat) (hx : x < m) (hy : y < m) w => fdPlus_any (m : Int) (tbl m l x) (y : Int) w h (hte x hx).1 (hte x hx).2 (by omega) (by omega))
  have HSQ : Hid (∀ x, sqr m (tbl m l) x = fl (fun y : Nat => addF m (tbl m l x) (y : Int)) m) := Lib.hid fun _ => rfl
  clear hp hg hv h hd hte
  obtain ⟨S, hS⟩ : ∃ S, S = sqr m (tbl m l) := ⟨_, rfl⟩
  rw [← hS] at HSQ ⊢
  clear hS
  generalize tbl m l = t at *
  go_enter Try.func35, Try.ntmps35
  go_wp2_with fail
  refine HP.out.mono ?_
  rintro e w1 ⟨rfl, hb1⟩
  have hz_hb1 := hb1.size; (try simp at hz_hb1)
  have HB1 := Lib.hid hb1; clear hb1
  go_wp2_with fail
  refine (HV.out _ HB1.out).mono ?_
  rintro e w3 ⟨v3, rfl, hr3, hb3⟩
  have HR3 := Lib.hid hr3
  have HB3 : Hid (Below w.heap.size w w3) := Lib.hid (HB1.out.trans (hb3.mono hz_hb1)); clear hb3 hr3
  go_wp2_with fail
  refine (HDS.out _ _ _ HR3.out).mono ?_
  rintro e w4 ⟨rfl, rfl⟩
  go_wp2_with fail
  refine (HV.out _ HB3.out).mono ?_
  rintro e w5 ⟨v5, rfl, hr5, hb5⟩
  obtain ⟨b, off, cap, rfl, hbl, hcc⟩ := hr5.sl.open (n := m) (by rw [fl_len]) (by omega)
  have HC : Hid (∀ w', Below w5.heap.size w5 w' → ∀ j, j < m → w'.cell? ⟨b, off + j, none⟩ = some (.int .i64 (t j))) := Lib.hid fun w' hbw j hj => by
    rw [hbw.cell (p := ⟨b, off + j, none⟩) hbl, hcc j hj, fl_get _ _ _ hj]
  have HB5 : Hid (Below w.heap.size w w5) := Lib.hid (HB3.out.trans (hb5.mono HB3.out.size)); clear hb5 hr5 hcc
  have hz5 := HB5.out.size
  go_wp2_with fail
  go_loopw [6, 26] (fun vo vi wr => ∃ (i : Nat) (X : Nat → Value) (ov : Value), ov = vo ∧ i ≤ m ∧ vi = .int .i64 i ∧ RS wr w5.heap.size ov i S X ∧ Below w5.heap.size w5 wr) (fun _ vi _ => m - (intOf vi).toNat)
  case atStart => exact ⟨0, fun _ => .slice none 0 0, _, rfl, Nat.zero_le _, rfl, RS.nil _ _ _ _, Below.refl _ _⟩
  case round =>
    obtain ⟨i, X, ov, rfl, hi', rfl, hr, hbw⟩ := hrel
    have HR := Lib.hid hr; clear hr
    have HBW := Lib.hid hbw; clear hbw
    have hz := HBW.out.size
    have hbl2 : b < wr.heap.size := by omega
    by_cases hlt : i < m
    · have hci := HC.out _ HBW.out i hlt
      have HPi := Lib.hid (fun y hy w => HPL.out i y hlt hy w)
      have HSi := Lib.hid (HSQ.out i)
      obtain ⟨wo, rfl⟩ : ∃ x : World, x = wr := ⟨_, rfl⟩
      generalize t i = z at *
      obtain ⟨G, hG⟩ : ∃ G : Nat → Int, G = fun y : Nat => addF m z (y : Int) := ⟨_, rfl⟩
      have HGy : Hid (∀ y : Nat, addF m z (y : Int) = G y) := Lib.hid fun y => by rw [hG]
      rw [← hG] at HSi
      clear hG
      have HGS := Lib.hid (fl_succ G)
      go_wp2_with fail
      go_loopw [9, 10] (fun vr vj wr => ∃ (j : Nat) (rv : Value), rv = vr ∧ j ≤ m ∧ vj = .int .i64 j ∧ Row wr wo.heap.size rv (fl G j) ∧ Below wo.heap.size wo wr) (fun _ vj _ => m - (intOf vj).toNat)
      case atStart => exact ⟨0, _, rfl, Nat.zero_le _, rfl, Row.nil _ _, Below.refl _ _⟩
      case round =>
        obtain ⟨j, rv, rfl, hj', rfl, hr, hbw⟩ := hrel
        have HRj := Lib.hid hr; clear hr
        have HBJ := Lib.hid hbw; clear hbw
        have hzj := HBJ.out.size
        by_cases hltj : j < m
        · have HPj := Lib.hid (fun w => HPi.out j hltj w)
          have HGj := HGy.out j
          have HGSj := Lib.hid (HGS.out j)
          rw [HGj] at HPj
          clear HGj
          generalize G j = y at *
          go_wp2_with fail
          refine (HPj.out _).mono ?_
          rintro e w2 ⟨rfl, hb2⟩
          have hz_hb2 := hb2.size; (try simp at hz_hb2)
          have HB2 : Hid (Below wo.heap.size wo w2) := Lib.hid (HBJ.out.trans (hb2.mono hzj))
          have HR2 := Lib.hid (HRj.out.below hb2)
          clear hb2
          go_wp2_with (at_builtin; refine wpList_append_own _ rfl _ _ 22 rfl wo.heap.size 3 i0 (.int .i64 0) 1 8 Try.underlying22 hi iz0 iz1 iz2 rfl (by decide) _ _ _ rfl (World.ownsRow.alloc HR2.out _) ⟨w2.heap.size, 0, none⟩ 1 1 [.int .i64 y] rfl rfl ?c1 ?c2 ?c3 ?c4 ?c5 ?_)
          case c1 => exact cell_one_new _ _ _
          case c2 => first | rfl | (intro u hu; simp at hu; subst hu; rfl)
          case c3 => rw [fl_len]; unfold maxLen; omega
          case c4 => rw [fl_len]; omega
          case c5 => first | omega | (simp; omega)
          intro v' w6 hown hgrow _
          have HR6 := Lib.hid (Row.appended hown)
          have hb6 : Below wo.heap.size wo (w2.alloc (.cells #[.int .i64 y] 3)) := HB2.out.alloc (by have := HB2.out.size; omega) _
          have HB6 := Lib.hid (hb6.grown hgrow (by have := HB2.out.size; simp; omega) (fun g hg => (HR2.out.lt g hg).1))
          clear hown hgrow hb6
          go_wp2
          go_roundw
          case rel => exact ⟨j + 1, _, rfl, by omega, by go_num, by rw [HGSj.out]; exact HR6.out, HB6.out⟩
          case measure => (simp [intOf]; try omega)
        · obtain rfl : j = m := by omega
          have HRm := Lib.hid HRj.out
          obtain ⟨a2, cp2, hrv⟩ := HRm.out.sl.form
          rw [fl_len] at hrv
          subst hrv
          have HRO := Lib.hid (HR.out.below HBJ.out)
          go_wp2_with (at_builtin; refine wpList_append_own _ rfl _ _ 39 rfl w5.heap.size 22 j0 (.slice none 0 0) 1 24 Try.underlying39 hj jz0 jz1 jz2 rfl (by decide) _ _ _ rfl (World.ownsRow.alloc HRO.out.outer _) ⟨wr.heap.size, 0, none⟩ 1 1 [.slice a2 j cp2] rfl rfl ?d1 ?d2 ?d3 ?d4 ?d5 ?_)
          case d1 => exact cell_one_new _ _ _
          case d2 => first | rfl | (intro u hu; simp at hu; subst hu; rfl)
          case d3 => unfold maxLen; omega
          case d4 => omega
          case d5 => first | omega | (simp; omega)
          intro v' w6 hown hgrow _
          have hrs := (HRO.out.alloc _).appended hgrow hown ((HRm.out.alloc _).mono (by omega)) (fun i hi g hg e => by
            have h1 := ((HR.out.inner i hi).lt g hg).2
            have h2 := (HRm.out.lt g e).1
            omega)
          have HRS := Lib.hid (hrs.congr (F' := S) (fun x hx => by
            by_cases e : x = i
            · subst e; rw [set1_at, HSi.out]
            · rw [set1_ne _ _ _ _ e]))
          have hbA : Below w5.heap.size w5 (wr.alloc (.cells #[.slice a2 j cp2] 22)) := by have hb1 := HBW.out; have hb2 := HBJ.out; (repeat' (first | (with_reducible assumption) | (with_reducible exact Below.refl _ _) | (with_reducible refine below_drewN ?_ _) | (with_reducible refine Below.drew ?_) | (with_reducible refine Below.alloc ?_ ?_ _) | (with_reducible refine Below.setCell ?_ ?_ _) | (with_reducible refine Below.trans ?_ (Below.mono (by assumption) ?_)) | (with_reducible exact Nat.le_refl _) | (with_reducible assumption) | omega | (simp; omega) | (simp; done)))
          have HB6 := Lib.hid (hbA.grown hgrow (by simp; omega) (fun g hg => (HRO.out.lt g hg).1))
          clear hown hgrow hbA hrs
          go_wp2
          go_roundw
          case rel => exact ⟨i + 1, _, _, rfl, by omega, by go_num, HRS.out, HB6.out⟩
          case measure => (simp [intOf]; try omega)
    · obtain rfl : i = m := by omega
      go_wp2
      go_ret2
      exact ⟨_, X, rfl, HR.out.mono hz5, HB5.out.trans (HBW.out.mono hz5)⟩
theorem key_SquareOfMap (q : Int) (l_f : List Int) (b_f : l_f.length ≤ 1048576) : ∃ (n : Nat) (F : Nat → List Int) (o : Bool), n ≤ 1048576 ∧ ofs F n ≤ 900 ∧ (∀ (w : World) (v_f : Value) (_ : Sl w v_f l_f), Calls Try.prog 35 #[.int .i64 q, v_f] w fun e w' => ∃ v X, e = .returned (.tuple #[v, .bool o]) ∧ RS w' w.heap.size v n F X ∧ Below w.heap.size w w') ∧
      (∀ (w : World) (v_f : Value) (_ : Sl w v_f l_f), Calls Try.prog 36 #[.int .i64 q, v_f] w fun e w' => ∃ v X, e = .returned (.tuple #[v, .bool o]) ∧ RS w' w.heap.size v n F X ∧ Below w.heap.size w w') := by
  cases h : prm q l_f with
  | false => exact ⟨0, fun _ => [], false, by decide, by decide, fun w v hv => (spec_SquareOfMap_no q v l_f w hv b_f h).mono fun _ _ ⟨he, hb⟩ => ⟨_, fun _ => .slice none 0 0, he, RS.nil _ _ _ _, hb⟩, fun w v hv => (impl_SquareOfMap_no q v l_f w hv b_f h).mono fun _ _ ⟨he, hb⟩ => ⟨_, fun _ => .slice none 0 0, he, RS.nil _ _ _ _, hb⟩⟩
  | true =>
    obtain ⟨m, rfl⟩ := prm_size h
    obtain ⟨hs, hg, hd⟩ := prm_nat h
    have hq := isSz_le _ hs
    refine ⟨m, sqr m (tbl m l_f), true, by omega, ?_, fun w v hv => spec_SquareOfMap_yes m v l_f w hs hv hg hd, fun w v hv => impl_SquareOfMap_yes m v l_f w hs hv hg hd⟩
    have := ofs_bd (F := sqr m (tbl m l_f)) (c := m) (fun i => by unfold sqr; rw [fl_len]; exact Nat.le_refl _) m
    have h2 : m * m ≤ 16 * 16 := Nat.mul_le_mul (by omega) (by omega)
    omega
set_option maxRecDepth 100000 in
set_option maxHeartbeats 4000000 in
/-- laws.FnExactSquareOfMap. -/
theorem walk_FnExactSquareOfMap (q : Int) (a_f : Option Addr) (n_f c_f : Nat) (z_f : List Int) (w : World) (_h_q : (Lit.int .i64 q).wf = true) (h_f : IsRow .i64 w a_f n_f c_f z_f) :
    Calls Try.prog 12 #[.int .i64 q, .slice a_f n_f c_f] w fun e w' => e = .returned (.bool true) ∧ Below w.heap.size w w' := by
  clear _h_q
  obtain ⟨hs_f, hl_f, _⟩ := h_f.sl
  generalize z_f.take n_f = l_f at *
  clear h_f
  subst hl_f
  by_cases b_f : l_f.length ≤ 1048576
  rotate_left
  · have hn_f : (1048576 : Int) < (l_f.length : Int) := by omega
    go_enter Try.func12, Try.ntmps12
    go_wp2
    go_ret
    exact ⟨rfl, Below.refl _ _⟩
  have hn_f : ¬ (1048576 : Int) < (l_f.length : Int) := by omega
  obtain ⟨n, F, o, hn, hl, k1, k2⟩ := key_SquareOfMap q l_f b_f
  have K1 := Lib.hid k1; clear k1
  have K2 := Lib.hid k2; clear k2
  have HS_f := Lib.hid hs_f; clear hs_f
  have HB0 : Hid (Below w.heap.size w w) := Lib.hid (Below.refl _ _)
  go_enter Try.func12, Try.ntmps12
  go_wp2_with fail
  refine (toIntS_any _ l_f _ (HS_f.out.below HB0.out (Nat.le_refl _)) b_f).mono ?_
  rintro e w1 ⟨v_s_f, rfl, hrw1, hbw1⟩
  have hzw1 : w.heap.size ≤ w1.heap.size := hbw1.size
  have HBw1 : Hid (Below w.heap.size w w1) := Lib.hid (HB0.out.trans (hbw1.mono HB0.out.size))
  have hww1 := HBw1.out.size
  clear hbw1 HB0
  have R_s_f_w1 := Lib.hid hrw1; clear hrw1
  have lt_s_f : Hid (∀ g, v_s_f.ownBlock = some g → w.heap.size ≤ g ∧ g < w1.heap.size) := Lib.hid R_s_f_w1.out.lt
  go_wp2_with fail
  refine (K1.out _ v_s_f R_s_f_w1.out.sl).mono ?_
  rintro e w2 ⟨v_sp, X_sp, rfl, hrw2, hbw2⟩
  have hzw2 : w1.heap.size ≤ w2.heap.size := hbw2.size
  have R_s_f_w2 := Lib.hid (R_s_f_w1.out.below hbw2)
  clear R_s_f_w1
  have HBw2 : Hid (Below w.heap.size w w2) := Lib.hid (HBw1.out.trans (hbw2.mono HBw1.out.size))
  have hww2 := HBw2.out.size
  clear hbw2 HBw1
  have R_sp_w2 := Lib.hid hrw2; clear hrw2
  have lt_sp := Lib.hid R_sp_w2.out.lts
  clear R_s_f_w2 lt_s_f
  go_wp2_with fail
  refine (toIntS_any _ l_f _ (HS_f.out.below HBw2.out (Nat.le_refl _)) b_f).mono ?_
  rintro e w3 ⟨v_x_f, rfl, hrw3, hbw3⟩
  have hzw3 : w2.heap.size ≤ w3.heap.size := hbw3.size
  have R_sp_w3 := Lib.hid (R_sp_w2.out.below hbw3)
  clear R_sp_w2
  have HBw3 : Hid (Below w.heap.size w w3) := Lib.hid (HBw2.out.trans (hbw3.mono HBw2.out.size))
  have hww3 := HBw3.out.size
  clear hbw3 HBw2
  have R_x_f_w3 := Lib.hid hrw3; clear hrw3
  have lt_x_f : Hid (∀ g, v_x_f.ownBlock = some g → w2.heap.size ≤ g ∧ g < w3.heap.size) := Lib.hid R_x_f_w3.out.lt
  go_wp2_with fail
  refine (K2.out _ v_x_f R_x_f_w3.out.sl).mono ?_
  rintro e w4 ⟨v_im, X_im, rfl, hrw4, hbw4⟩
  have hzw4 : w3.heap.size ≤ w4.heap.size := hbw4.size
  have R_sp_w4 := Lib.hid (R_sp_w3.out.below hbw4)
  clear R_sp_w3
  have R_x_f_w4 := Lib.hid (R_x_f_w3.out.below hbw4)
  clear R_x_f_w3
  have HBw4 : Hid (Below w.heap.size w w4) := Lib.hid (HBw3.out.trans (hbw4.mono HBw3.out.size))
  have hww4 := HBw4.out.size
  clear hbw4 HBw3
  have R_im_w4 := Lib.hid hrw4; clear hrw4
  have lt_im := Lib.hid R_im_w4.out.lts
  go_wp2_with fail
  refine (eqSS_same v_im v_sp n F X_im X_sp _ _ _ R_im_w4.out R_sp_w4.out (by omega) (by omega)).mono ?_
  rintro e w5 ⟨rfl, hbw5⟩
  have hzw5 : w4.heap.size ≤ w5.heap.size := hbw5.size
  have R_sp_w5 := Lib.hid (R_sp_w4.out.below hbw5)
  clear R_sp_w4
  have R_x_f_w5 := Lib.hid (R_x_f_w4.out.below hbw5)
  clear R_x_f_w4
  have R_im_w5 := Lib.hid (R_im_w4.out.below hbw5)
  clear R_im_w4
  have HBw5 : Hid (Below w.heap.size w w5) := Lib.hid (HBw4.out.trans (hbw5.mono HBw4.out.size))
  have hww5 := HBw5.out.size
  clear hbw5 HBw4
  go_wp2_with fail
  refine (toIntS_any _ l_f _ (HS_f.out.below HBw5.out (Nat.le_refl _)) b_f).mono ?_
  rintro e w6 ⟨v_y_f, rfl, hrw6, hbw6⟩
  have hzw6 : w5.heap.size ≤ w6.heap.size := hbw6.size
  have R_sp_w6 := Lib.hid (R_sp_w5.out.below hbw6)
  clear R_sp_w5
  have R_x_f_w6 := Lib.hid (R_x_f_w5.out.below hbw6)
  clear R_x_f_w5
  have R_im_w6 := Lib.hid (R_im_w5.out.below hbw6)
  clear R_im_w5
  have HBw6 : Hid (Below w.heap.size w w6) := Lib.hid (HBw5.out.trans (hbw6.mono HBw5.out.size))
  have hww6 := HBw6.out.size
  clear hbw6 HBw5
  have R_y_f_w6 := Lib.hid hrw6; clear hrw6
  have lt_y_f : Hid (∀ g, v_y_f.ownBlock = some g → w5.heap.size ≤ g ∧ g < w6.heap.size) := Lib.hid R_y_f_w6.out.lt
  go_wp2_with fail
  refine (eq_same v_x_f v_y_f l_f _ _ _ R_x_f_w6.out R_y_f_w6.out (by omega)).mono ?_
  rintro e w7 ⟨rfl, hbw7⟩
  have hzw7 : w6.heap.size ≤ w7.heap.size := hbw7.size
  have R_sp_w7 := Lib.hid (R_sp_w6.out.below hbw7)
  clear R_sp_w6
  have R_x_f_w7 := Lib.hid (R_x_f_w6.out.below hbw7)
  clear R_x_f_w6
  have R_im_w7 := Lib.hid (R_im_w6.out.below hbw7)
  clear R_im_w6
  have R_y_f_w7 := Lib.hid (R_y_f_w6.out.below hbw7)
  clear R_y_f_w6
  have HBw7 : Hid (Below w.heap.size w w7) := Lib.hid (HBw6.out.trans (hbw7.mono HBw6.out.size))
  have hww7 := HBw7.out.size
  clear hbw7 HBw6
  clear R_y_f_w7 lt_y_f
  go_wp2_with fail
  refine (mark_any v_x_f l_f _ (1) _ R_x_f_w7.out (by omega) (by omega) (by omega)).mono ?_
  rintro e w8 ⟨rfl, hrw8, hgw8⟩
  have hzw8 : w7.heap.size ≤ w8.heap.size := hgw8.size
  have R_sp_w8 := Lib.hid (R_sp_w7.out.keep (w' := w8) (fun g hg => hgw8.block g (R_sp_w7.out.lt g hg).2 fun e => by have h1 := lt_sp.out.1 g hg; have h2 := lt_x_f.out g e.symm; omega) (fun i hi g hg => hgw8.block g ((R_sp_w7.out.inner i hi).lt g hg).2 fun e => by have h1 := lt_sp.out.2 i hi g hg; have h2 := lt_x_f.out g e.symm; omega))
  clear R_sp_w7
  have R_im_w8 := Lib.hid (R_im_w7.out.keep (w' := w8) (fun g hg => hgw8.block g (R_im_w7.out.lt g hg).2 fun e => by have h1 := lt_im.out.1 g hg; have h2 := lt_x_f.out g e.symm; omega) (fun i hi g hg => hgw8.block g ((R_im_w7.out.inner i hi).lt g hg).2 fun e => by have h1 := lt_im.out.2 i hi g hg; have h2 := lt_x_f.out g e.symm; omega))
  clear R_im_w7
  have HBw8 : Hid (Below w.heap.size w w8) := Lib.hid (Below.grown HBw7.out hgw8 (by omega) (fun g e => by have h2 := lt_x_f.out g e; omega))
  have hww8 := HBw8.out.size
  have R_x_f_w8 := Lib.hid hrw8
  clear hrw8 hgw8 HBw7 R_x_f_w7
  clear R_x_f_w8 lt_x_f
  have hpos : ¬ (1 + (l_f.length : Int)) < (0 : Int) := by omega
  go_wp2_with fail
  refine (eqSS_same v_im v_sp n F X_im X_sp _ _ _ R_im_w8.out R_sp_w8.out (by omega) (by omega)).mono ?_
  rintro e w9 ⟨rfl, hbw9⟩
  have hzw9 : w8.heap.size ≤ w9.heap.size := hbw9.size
  have R_sp_w9 := Lib.hid (R_sp_w8.out.below hbw9)
  clear R_sp_w8
  have R_im_w9 := Lib.hid (R_im_w8.out.below hbw9)
  clear R_im_w8
  have HBw9 : Hid (Below w.heap.size w w9) := Lib.hid (HBw8.out.trans (hbw9.mono HBw8.out.size))
  have hww9 := HBw9.out.size
  clear hbw9 HBw8
  go_wp2_with fail
  refine (markSS_any v_im n F X_im _ 1 _ R_im_w9.out (by omega) (by omega) (by omega) (by omega) (by omega)).mono ?_
  rintro e w10 ⟨rfl, hrw10, hbw10⟩
  have hzw10 : w9.heap.size ≤ w10.heap.size := hbw10.size
  have R_sp_w10 := Lib.hid (R_sp_w9.out.keep (w' := w10) (fun g hg => hbw10.block g (by have h1 := lt_sp.out.1 g hg; omega)) (fun i hi g hg => hbw10.block g (by have h1 := lt_sp.out.2 i hi g hg; omega)))
  clear R_sp_w9
  have HBw10 : Hid (Below w.heap.size w w10) := Lib.hid (HBw9.out.trans (hbw10.mono (by omega)))
  have hww10 := HBw10.out.size
  have R_im_w10 := Lib.hid hrw10
  clear hrw10 hbw10 HBw9 R_im_w9
  go_wp2_with fail
  refine (heldSS_any v_im n F X_im _ 1 _ R_im_w10.out (by omega) (by omega) (by omega) (by omega)).mono ?_
  rintro e wx1 ⟨rfl, rfl⟩
  go_wp2_with fail
  refine (toIntS_any _ l_f _ (HS_f.out.below HBw10.out (Nat.le_refl _)) b_f).mono ?_
  rintro e w11 ⟨v_t_f, rfl, hrw11, hbw11⟩
  have hzw11 : w10.heap.size ≤ w11.heap.size := hbw11.size
  have R_sp_w11 := Lib.hid (R_sp_w10.out.below hbw11)
  clear R_sp_w10
  have R_im_w11 := Lib.hid (R_im_w10.out.below hbw11)
  clear R_im_w10
  have HBw11 : Hid (Below w.heap.size w w11) := Lib.hid (HBw10.out.trans (hbw11.mono HBw10.out.size))
  have hww11 := HBw11.out.size
  clear hbw11 HBw10
  have R_t_f_w11 := Lib.hid hrw11; clear hrw11
  have lt_t_f : Hid (∀ g, v_t_f.ownBlock = some g → w10.heap.size ≤ g ∧ g < w11.heap.size) := Lib.hid R_t_f_w11.out.lt
  go_wp2_with fail
  refine (K2.out _ v_t_f R_t_f_w11.out.sl).mono ?_
  rintro e w12 ⟨v_im2, X_im2, rfl, hrw12, hbw12⟩
  have hzw12 : w11.heap.size ≤ w12.heap.size := hbw12.size
  have R_sp_w12 := Lib.hid (R_sp_w11.out.below hbw12)
  clear R_sp_w11
  have R_im_w12 := Lib.hid (R_im_w11.out.below hbw12)
  clear R_im_w11
  have R_t_f_w12 := Lib.hid (R_t_f_w11.out.below hbw12)
  clear R_t_f_w11
  have HBw12 : Hid (Below w.heap.size w w12) := Lib.hid (HBw11.out.trans (hbw12.mono HBw11.out.size))
  have hww12 := HBw12.out.size
  clear hbw12 HBw11
  have R_im2_w12 := Lib.hid hrw12; clear hrw12
  have lt_im2 := Lib.hid R_im2_w12.out.lts
  clear R_t_f_w12 lt_t_f
  go_wp2_with fail
  refine (eqSS_same v_im2 v_sp n F X_im2 X_sp _ _ _ R_im2_w12.out R_sp_w12.out (by omega) (by omega)).mono ?_
  rintro e w13 ⟨rfl, hbw13⟩
  have hzw13 : w12.heap.size ≤ w13.heap.size := hbw13.size
  have R_sp_w13 := Lib.hid (R_sp_w12.out.below hbw13)
  clear R_sp_w12
  have R_im_w13 := Lib.hid (R_im_w12.out.below hbw13)
  clear R_im_w12
  have R_im2_w13 := Lib.hid (R_im2_w12.out.below hbw13)
  clear R_im2_w12
  have HBw13 : Hid (Below w.heap.size w w13) := Lib.hid (HBw12.out.trans (hbw13.mono HBw12.out.size))
  have hww13 := HBw13.out.size
  clear hbw13 HBw12
  go_wp2_with fail
  refine (heldSS_any v_im n F X_im _ 1 _ R_im_w13.out (by omega) (by omega) (by omega) (by omega)).mono ?_
  rintro e wx2 ⟨rfl, rfl⟩
  go_wp2
  go_ret
  exact ⟨rfl, HBw13.out⟩
end Go.Proofs.Ytimpgbifnijkkaa
