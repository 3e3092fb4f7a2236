/- impl.valueTable.placesOf, by contracts. -/
import Derived.Test.YtgndlpdcebmgmacOE
namespace Go.Proofs.Ytgndlpdcebmgmac
open Go.RowKit
/-- '==' on two elements, at their digits. -/
theorem eq_dgp (q x y : Int) (h : isSz q = true) (hx : El q x) (hy : El q y) (w : World) :
    (Op.equalIn 9999 43 (.agg #[.int .i64 (dg q x 0), .int .i64 (dg q x 1), .int .i64 (dg q x 2), .int .i64 (dg q x 3)]) (.agg #[.int .i64 (dg q y 0), .int .i64 (dg q y 1), .int .i64 (dg q y 2), .int .i64 (dg q y 3)])).run Try.prog w = .ok (decide (x = y)) w := by
  rw [← dg_inj q x y h hx.1 hx.2 hy.1 hy.2]
  exact eq_arr 43 Try.underlying43 _ _ _ _ _ _ _ _ 9997 w
/-- A place of y. -/
def isPl (t : Nat → Int) (y : Int) (i : Nat) : Bool := decide (t i = y)
theorem VB_cells {w : World} {b : Nat} {q : Int} {c : Nat → Int} {v : Value} {T : TypeId} (h : w.heap[b]? = some (.cells (VB q c v) T (0, 0))) :
    w.cell? ⟨b, 0, none⟩ = some (.int .i64 q) ∧ w.rangeAt b 0 [.int .i64 q, .int .i64 (pr q), .int .i64 (pl q)] ∧ w.cell? ⟨b, 19, none⟩ = some v := by
  refine ⟨?_, fun j u hu => ?_, ?_⟩
  · rw [cell_of_row w b _ _ _ _ h]; rfl
  · have hj : j < 3 := (List.getElem?_eq_some_iff.1 hu).1
    rw [cell_of_row w b _ _ _ _ h, Nat.zero_add, ← hu]
    have hc : j = 0 ∨ j = 1 ∨ j = 2 := by omega
    rcases hc with rfl | rfl | rfl
    all_goals rfl
  · rw [cell_of_row w b _ _ _ _ h]; rfl
theorem VB_range {w : World} {b : Nat} {q : Int} {c : Nat → Int} {v : Value} {T : TypeId} (h : w.heap[b]? = some (.cells (VB q c v) T (0, 0))) : w.rangeAt b 0 (VA q c).toList := fun j u hu => by
  have hj : j < 19 := (List.getElem?_eq_some_iff.1 hu).1
  rw [cell_of_row w b _ _ _ _ h, Nat.zero_add, ← hu]
  have hc : j = 0 ∨ j = 1 ∨ j = 2 ∨ j = 3 ∨ j = 4 ∨ j = 5 ∨ j = 6 ∨ j = 7 ∨ j = 8 ∨ j = 9 ∨ j = 10 ∨ j = 11 ∨ j = 12 ∨ j = 13 ∨ j = 14 ∨ j = 15 ∨ j = 16 ∨ j = 17 ∨ j = 18 := by omega
  rcases hc with rfl | rfl | rfl | rfl | rfl | rfl | rfl | rfl | rfl | rfl | rfl | rfl | rfl | rfl | rfl | rfl | rfl | rfl | rfl
  all_goals rfl
set_option maxRecDepth 100000 in
set_option maxHeartbeats 4000000 in
/-- The closure of impl.valueTable.placesOf. -/
theorem plClo (m g cap i K Y : Nat) (c t : Nat → Int) (y : Int) (w : World) (h : isSz (m : Int) = true) (hi : i < m) (hg : g < w.heap.size) (he : Els w g (m : Int) t m) (ht : ∀ i, i < m → El (m : Int) (t i)) (hy : El (m : Int) y)
    (hK : w.heap[K]? = some (.cells (VB (m : Int) c (.slice (some ⟨g, 0, none⟩) m cap)) 51)) (hY : w.heap[Y]? = some (eblk (m : Int) y)) :
    Calls Try.prog 83 #[elE (m : Int) (i : Int), .pointer (some ⟨K, 0, none⟩), .pointer (some ⟨Y, 0, none⟩)] w fun e w' => e = .returned (.bool (isPl t y i)) ∧ Below w.heap.size w w' := by
  have hq := isSz_le (m : Int) h
  have hKl : K < w.heap.size := (Array.getElem?_eq_some_iff.1 hK).1
  have hYl : Y < w.heap.size := (Array.getElem?_eq_some_iff.1 hY).1
  have HN := Lib.hid (fun w => numberE (m : Int) (i : Int) w h (El.nat hi).1 (El.nat hi).2)
  have HEQ := Lib.hid (fun w => eq_dgp (m : Int) (t i) y h (ht i hi) hy w)
  have HI : Hid (isPl t y i = decide (t i = y)) := Lib.hid rfl
  have HKK : Hid (∀ w', Below w.heap.size w w' → w'.cell? ⟨K, 19, none⟩ = some (.slice (some ⟨g, 0, none⟩) m cap)) := Lib.hid fun w' hb => (VB_cells ((hb.block _ hKl).trans hK)).2.2
  have HYY : Hid (∀ w', Below w.heap.size w w' → w'.heap[Y]? = some (eblk (m : Int) y)) := Lib.hid fun w' hb => (hb.block _ hYl).trans hY
  have HE : Hid (∀ w', Below w.heap.size w w' → Els w' g (m : Int) t m) := Lib.hid fun w' hb => he.below hb hg
  clear he h ht hK hY
  rw [HI.out]
  clear HI
  have HII : Hid (∀ w', Below w.heap.size w w' → w'.cell? ⟨g, i * 7, none⟩ = some (.int .i64 m) ∧ w'.cell? ⟨g, i * 7 + 1, none⟩ = some (.int .i64 (pr m)) ∧ w'.cell? ⟨g, i * 7 + 2, none⟩ = some (.int .i64 (pl m)) ∧ w'.cell? ⟨g, i * 7 + 3, none⟩ = some (.int .i64 (dg m (t i) 0)) ∧ w'.cell? ⟨g, i * 7 + 4, none⟩ = some (.int .i64 (dg m (t i) 1)) ∧ w'.cell? ⟨g, i * 7 + 5, none⟩ = some (.int .i64 (dg m (t i) 2)) ∧ w'.cell? ⟨g, i * 7 + 6, none⟩ = some (.int .i64 (dg m (t i) 3))) := Lib.hid fun w' hb => HE.out w' hb i hi
  clear HE
  generalize t i = x at *
  generalize decide (x = y) = d at *
  cases d
  all_goals
    go_enter Try.func83, Try.ntmps83
    go_wp2_with fail
    have HKEEP : Hid (∀ w', Below (w.heap.size + 1) (w.alloc (eblk (m : Int) (i : Int))) w' → w'.cell? ⟨K, 19, none⟩ = some (.slice (some ⟨g, 0, none⟩) m cap) ∧ w'.cell? ⟨Y, 0, none⟩ = some (.int .i64 m) ∧ w'.cell? ⟨Y, 1, none⟩ = some (.int .i64 (pr m)) ∧ w'.cell? ⟨Y, 2, none⟩ = some (.int .i64 (pl m)) ∧ w'.cell? ⟨Y, 3, none⟩ = some (.int .i64 (dg m y 0)) ∧ w'.cell? ⟨Y, 4, none⟩ = some (.int .i64 (dg m y 1)) ∧ w'.cell? ⟨Y, 5, none⟩ = some (.int .i64 (dg m y 2)) ∧ w'.cell? ⟨Y, 6, none⟩ = some (.int .i64 (dg m y 3)) ∧
        w'.cell? ⟨g, i * 7, none⟩ = some (.int .i64 m) ∧ w'.cell? ⟨g, i * 7 + 1, none⟩ = some (.int .i64 (pr m)) ∧ w'.cell? ⟨g, i * 7 + 2, none⟩ = some (.int .i64 (pl m)) ∧ w'.cell? ⟨g, i * 7 + 3, none⟩ = some (.int .i64 (dg m x 0)) ∧ w'.cell? ⟨g, i * 7 + 4, none⟩ = some (.int .i64 (dg m x 1)) ∧ w'.cell? ⟨g, i * 7 + 5, none⟩ = some (.int .i64 (dg m x 2)) ∧ w'.cell? ⟨g, i * 7 + 6, none⟩ = some (.int .i64 (dg m x 3)) ∧
        w'.cell? ⟨w.heap.size, 0, none⟩ = some (.int .i64 m) ∧ w'.cell? ⟨w.heap.size, 1, none⟩ = some (.int .i64 (pr m)) ∧ w'.cell? ⟨w.heap.size, 2, none⟩ = some (.int .i64 (pl m)) ∧ w'.cell? ⟨w.heap.size, 3, none⟩ = some (.int .i64 (dg m i 0)) ∧ w'.cell? ⟨w.heap.size, 4, none⟩ = some (.int .i64 (dg m i 1)) ∧ w'.cell? ⟨w.heap.size, 5, none⟩ = some (.int .i64 (dg m i 2)) ∧ w'.cell? ⟨w.heap.size, 6, none⟩ = some (.int .i64 (dg m i 3))) := Lib.hid fun w' hb => by
      have hbw : Below w.heap.size w w' := by (repeat' (first | (with_reducible assumption) | (with_reducible exact Below.refl _ _) | (with_reducible refine below_drewN ?_ _) | (with_reducible refine Below.drew ?_) | (with_reducible refine Below.alloc ?_ ?_ _) | (with_reducible refine Below.setCell ?_ ?_ _) | (with_reducible refine Below.trans ?_ (Below.mono (by assumption) ?_)) | (with_reducible exact Nat.le_refl _) | (with_reducible assumption) | omega | (simp; omega) | (simp; done)))
      obtain ⟨z0, z1, z2, z3, z4, z5, z6, _⟩ := seven (HYY.out w' hbw)
      obtain ⟨x0, x1, x2, x3, x4, x5, x6⟩ := HII.out w' hbw
      obtain ⟨y0, y1, y2, y3, y4, y5, y6, _⟩ := seven ((hb.block _ (by omega)).trans (heap_alloc_new w (eblk (m : Int) (i : Int))))
      exact ⟨HKK.out w' hbw, z0, z1, z2, z3, z4, z5, z6, x0, x1, x2, x3, x4, x5, x6, y0, y1, y2, y3, y4, y5, y6⟩
    have heq0 := HEQ.out
    go_region_held3 (fun w' => w'.cell? ⟨K, 19, none⟩ = some (.slice (some ⟨g, 0, none⟩) m cap) ∧ w'.cell? ⟨Y, 0, none⟩ = some (.int .i64 m) ∧ w'.cell? ⟨Y, 1, none⟩ = some (.int .i64 (pr m)) ∧ w'.cell? ⟨Y, 2, none⟩ = some (.int .i64 (pl m)) ∧ w'.cell? ⟨Y, 3, none⟩ = some (.int .i64 (dg m y 0)) ∧ w'.cell? ⟨Y, 4, none⟩ = some (.int .i64 (dg m y 1)) ∧ w'.cell? ⟨Y, 5, none⟩ = some (.int .i64 (dg m y 2)) ∧ w'.cell? ⟨Y, 6, none⟩ = some (.int .i64 (dg m y 3)) ∧
        w'.cell? ⟨g, i * 7, none⟩ = some (.int .i64 m) ∧ w'.cell? ⟨g, i * 7 + 1, none⟩ = some (.int .i64 (pr m)) ∧ w'.cell? ⟨g, i * 7 + 2, none⟩ = some (.int .i64 (pl m)) ∧ w'.cell? ⟨g, i * 7 + 3, none⟩ = some (.int .i64 (dg m x 0)) ∧ w'.cell? ⟨g, i * 7 + 4, none⟩ = some (.int .i64 (dg m x 1)) ∧ w'.cell? ⟨g, i * 7 + 5, none⟩ = some (.int .i64 (dg m x 2)) ∧ w'.cell? ⟨g, i * 7 + 6, none⟩ = some (.int .i64 (dg m x 3)) ∧
        w'.cell? ⟨w.heap.size, 0, none⟩ = some (.int .i64 m) ∧ w'.cell? ⟨w.heap.size, 1, none⟩ = some (.int .i64 (pr m)) ∧ w'.cell? ⟨w.heap.size, 2, none⟩ = some (.int .i64 (pl m)) ∧ w'.cell? ⟨w.heap.size, 3, none⟩ = some (.int .i64 (dg m i 0)) ∧ w'.cell? ⟨w.heap.size, 4, none⟩ = some (.int .i64 (dg m i 1)) ∧ w'.cell? ⟨w.heap.size, 5, none⟩ = some (.int .i64 (dg m i 2)) ∧ w'.cell? ⟨w.heap.size, 6, none⟩ = some (.int .i64 (dg m i 3)))
      (exact HKEEP.out _ (by (try have hb2 := HB2.out); (repeat' (first | (with_reducible assumption) | (with_reducible exact Below.refl _ _) | (with_reducible refine below_drewN ?_ _) | (with_reducible refine Below.drew ?_) | (with_reducible refine Below.alloc ?_ ?_ _) | (with_reducible refine Below.setCell ?_ ?_ _) | (with_reducible refine Below.trans ?_ (Below.mono (by assumption) ?_)) | (with_reducible exact Nat.le_refl _) | (with_reducible assumption) | omega | (simp; omega) | (simp; done)))))
      (first
      | (go_at_call 58; refine (HN.out _).mono ?_; rintro e w2 ⟨rfl, hb2⟩; obtain ⟨hc2, hf2⟩ := bcell hb2; (try simp only [World.size_drew] at hc2 hf2); have hz2 := hb2.size; (try simp at hz2); have HB2 := Lib.hid hb2; clear hb2))
    all_goals
      go_wp2
      go_ret
      have hb2 := HB2.out
      exact ⟨rfl, by (repeat' (first | (with_reducible assumption) | (with_reducible exact Below.refl _ _) | (with_reducible refine below_drewN ?_ _) | (with_reducible refine Below.drew ?_) | (with_reducible refine Below.alloc ?_ ?_ _) | (with_reducible refine Below.setCell ?_ ?_ _) | (with_reducible refine Below.trans ?_ (Below.mono (by assumption) ?_)) | (with_reducible exact Nat.le_refl _) | (with_reducible assumption) | omega | (simp; omega) | (simp; done)))⟩
set_option maxHeartbeats 2000000 in
/-- impl.field.numbersWhere at impl.valueTable.placesOf$1. -/
theorem numbersWhere_pl (q : Int) (w : World) (h : isSz q = true) (P : Nat → Bool) (R R2 : Nat) (HX0 : ∀ (n : Nat) w', (n : Int) < q → Below w.heap.size w w' → Calls Try.prog 83 #[elE q (n : Int), .pointer (some ⟨R, 0, none⟩), .pointer (some ⟨R2, 0, none⟩)] w' fun e w'' => e = .returned (.bool (P n)) ∧ Below w'.heap.size w' w'') :
    Calls Try.prog 56 #[fdE q, .func (.func 83) #[] #[.pointer (some ⟨R, 0, none⟩), .pointer (some ⟨R2, 0, none⟩)]] w fun e w' => ∃ v, e = .returned v ∧ Row w' w.heap.size v (wh P q.toNat) ∧ Below w.heap.size w w' := by
  obtain ⟨i0, hi, iz0, iz1, iz2⟩ := info_parts Try.infoI
  have hq := isSz_le q h
  have HE := Lib.hid (fun w => elements_any q w h)
  have HX := Lib.hid HX0; clear HX0
  obtain ⟨m, hm⟩ := Int.eq_ofNat_of_zero_le (show 0 ≤ q by omega)
  subst hm
  rw [Int.toNat_natCast] at HE ⊢
  clear h
  go_enter Try.func56, Try.ntmps56
  go_wp2_with fail
  refine (HE.out _).mono ?_
  rintro e w3 ⟨g, cp, rfl, hg, hkb, hel, hb3⟩
  simp at hg
  have hgl := hkb.lt
  have hb : Below w.heap.size w w3 := by (repeat' (first | (with_reducible assumption) | (with_reducible exact Below.refl _ _) | (with_reducible refine below_drewN ?_ _) | (with_reducible refine Below.drew ?_) | (with_reducible refine Below.alloc ?_ ?_ _) | (with_reducible refine Below.setCell ?_ ?_ _) | (with_reducible refine Below.trans ?_ (Below.mono (by assumption) ?_)) | (with_reducible exact Nat.le_refl _) | (with_reducible assumption) | omega | (simp; omega) | (simp; done)))
  have HK3 := Lib.hid hkb
  have HL3 := Lib.hid hel
  have HB3 := Lib.hid hb
  have HCR : Hid (∀ wr, Below w3.heap.size w3 wr → Below w.heap.size w wr) := Lib.hid (fun wr hbw => hb.trans (hbw.mono hb.size))
  have hz3 := hb.size
  clear hkb hel hb hb3
  go_wp2_with fail
  go_loopw [5, 11] (fun vo vi wr => ∃ i : Nat, i ≤ m ∧ vi = .int .i64 i ∧ Row wr w3.heap.size vo (wh P i) ∧ Below w3.heap.size w3 wr) (fun _ vi _ => m - (intOf vi).toNat)
  case atStart => exact ⟨0, Nat.zero_le _, rfl, Row.nil _ _, Below.refl _ _⟩
  case round =>
    obtain ⟨i, hi', rfl, hr, hbw⟩ := hrel
    have hz := hbw.size
    have HL := Lib.hid (wh_len P i)
    by_cases hlt : i < m
    · obtain ⟨c0, c1, c2, c3, c4, c5, c6⟩ := (HL3.out.below hbw hgl) i hlt
      have hgr : g < wr.heap.size := by omega
      have hnq : (i : Int) < (m : Int) := by omega
      have HR := Lib.hid hr; clear hr
      have HBW := Lib.hid hbw; clear hbw
      have HX' := Lib.hid (fun w' hb => HX.out i w' hnq hb)
      cases hp : P i with
      | true =>
        rw [hp] at HX'
        have HS := Lib.hid (wh_yes P i hp); clear hp
        go_wp2_with fail
        refine (HX'.out _ ((HCR.out _ HBW.out).alloc (by omega) _)).mono ?_
        rintro e w5 ⟨rfl, hb5⟩
        have hz_hb5 := hb5.size; (try simp at hz_hb5)
        have HR5 := Lib.hid ((HR.out.alloc (eblk (m : Int) (i : Int))).below hb5)
        have HB5 : Hid (Below wr.heap.size wr w5) := Lib.hid (by (repeat' (first | (with_reducible assumption) | (with_reducible exact Below.refl _ _) | (with_reducible refine below_drewN ?_ _) | (with_reducible refine Below.drew ?_) | (with_reducible refine Below.alloc ?_ ?_ _) | (with_reducible refine Below.setCell ?_ ?_ _) | (with_reducible refine Below.trans ?_ (Below.mono (by assumption) ?_)) | (with_reducible exact Nat.le_refl _) | (with_reducible assumption) | omega | (simp; omega) | (simp; done))))
        clear hb5
        go_wp2_with (at_builtin; refine wpList_append_own _ rfl _ _ 22 rfl w3.heap.size 3 i0 (.int .i64 0) 1 8 Try.underlying22 hi iz0 iz1 iz2 rfl (by decide) _ _ _ rfl (World.ownsRow.alloc HR5.out _) ⟨w5.heap.size, 0, none⟩ 1 1 [.int .i64 i] rfl rfl ?c1 ?c2 ?c3 ?c4 ?c5 ?_)
        case c1 => exact cell_one_new _ _ _
        case c2 => intro u hu; simp at hu; subst hu; rfl
        case c3 => have := HL.out; unfold maxLen; omega
        case c4 => have := HL.out; omega
        case c5 => simp; omega
        intro v' w6 hown hgrow _
        have HR6 := Lib.hid (Row.appended hown)
        have hb : Below w3.heap.size w3 (w5.alloc (.cells #[.int .i64 i] 3)) := (HBW.out.trans (HB5.out.mono hz)).alloc (by omega) _
        have HB6 := Lib.hid (hb.grown hgrow (by simp; omega) (fun g hg => (HR5.out.lt g hg).1))
        clear hown hgrow hb
        go_wp2
        go_roundw
        case rel => exact ⟨i + 1, by omega, by go_num, by rw [HS.out]; exact HR6.out, HB6.out⟩
        case measure => simp [intOf]; omega
      | false =>
        rw [hp] at HX'
        have HS := Lib.hid (wh_no P i hp); clear hp
        go_wp2_with fail
        refine (HX'.out _ ((HCR.out _ HBW.out).alloc (by omega) _)).mono ?_
        rintro e w5 ⟨rfl, hb5⟩
        have hz_hb5 := hb5.size; (try simp at hz_hb5)
        have HR5 := Lib.hid ((HR.out.alloc (eblk (m : Int) (i : Int))).below hb5)
        have HB5 : Hid (Below wr.heap.size wr w5) := Lib.hid (by (repeat' (first | (with_reducible assumption) | (with_reducible exact Below.refl _ _) | (with_reducible refine below_drewN ?_ _) | (with_reducible refine Below.drew ?_) | (with_reducible refine Below.alloc ?_ ?_ _) | (with_reducible refine Below.setCell ?_ ?_ _) | (with_reducible refine Below.trans ?_ (Below.mono (by assumption) ?_)) | (with_reducible exact Nat.le_refl _) | (with_reducible assumption) | omega | (simp; omega) | (simp; done))))
        clear hb5
        go_wp2
        go_roundw
        case rel => exact ⟨i + 1, by omega, by go_num, by rw [HS.out]; exact HR5.out, HBW.out.trans (HB5.out.mono hz)⟩
        case measure => simp [intOf]; omega
    · obtain rfl : m = i := by omega
      have HR := Lib.hid hr; clear hr
      have HBW := Lib.hid hbw; clear hbw
      go_wp2
      go_ret
      exact ⟨_, rfl, HR.out.mono hz3, HB3.out.trans (HBW.out.mono hz3)⟩


set_option maxRecDepth 100000 in
set_option maxHeartbeats 4000000 in
/-- impl.valueTable.placesOf. -/
theorem placesOfE (m g cap : Nat) (c t : Nat → Int) (y : Int) (w : World) (h : isSz (m : Int) = true) (hg : g < w.heap.size) (he : Els w g (m : Int) t m) (ht : ∀ i, i < m → El (m : Int) (t i)) (hy : El (m : Int) y) :
    Calls Try.prog 51 #[.agg (VB (m : Int) c (.slice (some ⟨g, 0, none⟩) m cap)), elE (m : Int) y] w fun e w' => ∃ v, e = .returned v ∧ Row w' w.heap.size v (wh (isPl t y) m) ∧ Below w.heap.size w w' := by
  have HTW := two w (.cells (VB (m : Int) c (.slice (some ⟨g, 0, none⟩) m cap)) 51) (eblk (m : Int) y)
  obtain ⟨x0, xr, x19⟩ := VB_cells HTW.1
  have hbb : Below w.heap.size w ((w.alloc (.cells (VB (m : Int) c (.slice (some ⟨g, 0, none⟩) m cap)) 51)).alloc (eblk (m : Int) y)) := by (repeat' (first | (with_reducible assumption) | (with_reducible exact Below.refl _ _) | (with_reducible refine below_drewN ?_ _) | (with_reducible refine Below.drew ?_) | (with_reducible refine Below.alloc ?_ ?_ _) | (with_reducible refine Below.setCell ?_ ?_ _) | (with_reducible refine Below.trans ?_ (Below.mono (by assumption) ?_)) | (with_reducible exact Nat.le_refl _) | (with_reducible assumption) | omega | (simp; omega) | (simp; done)))
  have HNW := Lib.hid (numbersWhere_pl (m : Int) ((w.alloc (.cells (VB (m : Int) c (.slice (some ⟨g, 0, none⟩) m cap)) 51)).alloc (eblk (m : Int) y)) h (isPl t y) w.heap.size (w.heap.size + 1) fun n w' hn hb => plClo m g cap n w.heap.size (w.heap.size + 1) c t y w' h (by omega) (by have := hb.size; simp at this; omega) (he.below (hbb.trans (hb.mono (by simp; omega))) hg) ht hy ((hb.block _ (by simp; omega)).trans HTW.1) ((hb.block _ (by simp)).trans HTW.2))
  rw [Int.toNat_natCast] at HNW
  have hu := Try.underlying35
  have hi : (Try.prog.info? 35).map (·.size) = some [Value.int .i64 (m : Int), .int .i64 (pr m), .int .i64 (pl m)].length := by rw [show [Value.int .i64 (m : Int), .int .i64 (pr m), .int .i64 (pl m)].length = 3 from rfl]; kernel_rfl
  have HBB := Lib.hid hbb
  clear h he ht HTW x0 x19 hbb
  generalize VB (m : Int) c (.slice (some ⟨g, 0, none⟩) m cap) = A at *
  go_enter Try.func51, Try.ntmps51
  go_wp2_with (first | refine wpList_load_mid rfl 35 _ rfl w.heap.size 0 rfl _ _ xr hu rfl hi ?_ | fail)
  refine HNW.out.mono ?_
  rintro e w1 ⟨v, rfl, hr, hb1⟩
  have HR := Lib.hid hr; clear hr
  have HB1 := Lib.hid hb1; clear hb1
  go_wp2
  go_ret
  have hb1 := HB1.out
  have hbb := HBB.out
  exact ⟨_, rfl, HR.out.mono (by simp; omega), by (repeat' (first | (with_reducible assumption) | (with_reducible exact Below.refl _ _) | (with_reducible refine below_drewN ?_ _) | (with_reducible refine Below.drew ?_) | (with_reducible refine Below.alloc ?_ ?_ _) | (with_reducible refine Below.setCell ?_ ?_ _) | (with_reducible refine Below.trans ?_ (Below.mono (by assumption) ?_)) | (with_reducible exact Nat.le_refl _) | (with_reducible assumption) | omega | (simp; omega) | (simp; done)))⟩
end Go.Proofs.Ytgndlpdcebmgmac
