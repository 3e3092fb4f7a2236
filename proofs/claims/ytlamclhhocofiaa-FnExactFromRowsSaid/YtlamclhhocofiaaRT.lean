/- impl.field.isRow, areRows, by contracts. -/
import Derived.Test.YtlamclhhocofiaaRR
namespace Go.Proofs.Ytlamclhhocofiaa
open Go.RowKit
theorem take_all (P : Int → Bool) (l : List Int) (i : Nat) (h : i < l.length) : (l.take (i + 1)).all P = ((l.take i).all P && P (l.getD i 0)) := by
  rw [List.take_add_one, List.all_append, List.getElem?_eq_getElem h]
  simp [List.getD, h]
set_option maxHeartbeats 1000000 in
/-- The closure of impl.field.isRow. -/
theorem isRowClo (q x : Int) (P : Nat) (w : World) (hP : w.heap[P]? = some (ffblk q)) :
    Calls Try.prog 134 #[.int .i64 x, .pointer (some ⟨P, 0, none⟩)] w fun e w' => e = .returned (.bool (!(inF (pr q) x))) ∧ Below w.heap.size w w' := by
  obtain ⟨x0, x1, x2, _⟩ := cells3' hP
  have hPl : P < w.heap.size := (Array.getElem?_eq_some_iff.1 hP).1
  clear hP
  generalize pr q = p at *
  by_cases h0 : x < 0
  · have hr : (!(inF p x)) = true := by simp [inF]; omega
    rw [hr]
    clear hr
    go_enter Try.func134, Try.ntmps134
    go_wp2
    go_ret
    exact ⟨rfl, by (repeat' (first | (with_reducible assumption) | (with_reducible exact Below.refl _ _) | (with_reducible refine below_drewN ?_ _) | (with_reducible refine Below.drew ?_) | (with_reducible refine Below.alloc ?_ ?_ _) | (with_reducible refine Below.setCell ?_ ?_ _) | (with_reducible refine Below.trans ?_ (Below.mono (by assumption) ?_)) | (with_reducible exact Nat.le_refl _) | (with_reducible assumption) | omega | (simp; omega) | (simp; done)))⟩
  · by_cases h1 : p ≤ x
    · have hr : (!(inF p x)) = true := by simp [inF]; omega
      rw [hr]
      clear hr
      go_enter Try.func134, Try.ntmps134
      go_wp2
      go_ret
      exact ⟨by simp, by (repeat' (first | (with_reducible assumption) | (with_reducible exact Below.refl _ _) | (with_reducible refine below_drewN ?_ _) | (with_reducible refine Below.drew ?_) | (with_reducible refine Below.alloc ?_ ?_ _) | (with_reducible refine Below.setCell ?_ ?_ _) | (with_reducible refine Below.trans ?_ (Below.mono (by assumption) ?_)) | (with_reducible exact Nat.le_refl _) | (with_reducible assumption) | omega | (simp; omega) | (simp; done)))⟩
    · have hr : (!(inF p x)) = false := by simp [inF]; omega
      rw [hr]
      clear hr
      go_enter Try.func134, Try.ntmps134
      go_wp2
      go_ret
      exact ⟨by simp, by (repeat' (first | (with_reducible assumption) | (with_reducible exact Below.refl _ _) | (with_reducible refine below_drewN ?_ _) | (with_reducible refine Below.drew ?_) | (with_reducible refine Below.alloc ?_ ?_ _) | (with_reducible refine Below.setCell ?_ ?_ _) | (with_reducible refine Below.trans ?_ (Below.mono (by assumption) ?_)) | (with_reducible exact Nat.le_refl _) | (with_reducible assumption) | omega | (simp; omega) | (simp; done)))⟩
set_option maxRecDepth 100000 in
set_option maxHeartbeats 4000000 in
/-- slices.IndexFunc at it. -/
theorem isRowIdx (q : Int) (P : Nat) (v : Value) (l : List Int) (w : World) (hv : Sl w v l) (hl : l.length ≤ 1048576) (hP : w.heap[P]? = some (ffblk q)) :
    Calls Try.prog 146 #[v, .func (.func 134) #[] #[.pointer (some ⟨P, 0, none⟩)]] w fun e w' => ∃ r : Int, e = .returned (.int .i64 r) ∧ decide (0 ≤ r) = (!(l.all (inF (pr q)))) ∧ -1 ≤ r ∧ r ≤ 1048576 ∧ Below w.heap.size w w' := by
  have hPl : P < w.heap.size := (Array.getElem?_eq_some_iff.1 hP).1
  have HC := Lib.hid (fun x w' (hb : Below w.heap.size w w') => isRowClo q x P w' ((hb.block _ hPl).trans hP))
  obtain ⟨a, cap, hva, HO⟩ : ∃ a cap, v = .slice a l.length cap ∧ Hid (0 < l.length → ∃ b off, a = some ⟨b, off, none⟩ ∧ b < w.heap.size ∧ ∀ i, i < l.length → w.cell? ⟨b, off + i, none⟩ = some (.int .i64 (l.getD i 0))) := by
    by_cases h0 : 0 < l.length
    · obtain ⟨b, off, cap, rfl, hb, hc⟩ := hv.open rfl h0
      exact ⟨_, cap, rfl, Lib.hid fun _ => ⟨b, off, rfl, hb, hc⟩⟩
    · obtain ⟨a, cap, e⟩ := hv.form
      exact ⟨a, cap, e, Lib.hid fun h => absurd h h0⟩
  subst hva
  have HT := Lib.hid (fun i hi => take_all (inF (pr q)) l i hi)
  have HT0 : Hid ((l.take 0).all (inF (pr q)) = true) := Lib.hid rfl
  have HTN : Hid (∀ i, i ≤ l.length → (l.take i).all (inF (pr q)) = false → l.all (inF (pr q)) = false) := Lib.hid fun i hi h => by
    cases ha : l.all (inF (pr q)) with
    | false => rfl
    | true =>
      have : (l.take i).all (inF (pr q)) = true := List.all_eq_true.2 fun x hx => List.all_eq_true.1 ha x (List.mem_of_mem_take hx)
      rw [this] at h; cases h
  have HTF : Hid ((l.take l.length).all (inF (pr q)) = l.all (inF (pr q))) := Lib.hid (by rw [List.take_length])
  clear hv hP
  generalize l.all (inF (pr q)) = R at *
  generalize l.length = n at *
  generalize (fun i => (l.take i).all (inF (pr q))) = T at *
  go_enter Try.func146, Try.ntmps146
  go_wp2_with fail
  go_loopw [8] (fun vi wr => ∃ i : Nat, i ≤ n ∧ vi = .int .i64 i ∧ (l.take i).all (inF (pr q)) = true ∧ Below w.heap.size w wr) (fun vi _ => n - (intOf vi).toNat)
  case atStart => exact ⟨0, Nat.zero_le _, rfl, HT0.out, by (repeat' (first | (with_reducible assumption) | (with_reducible exact Below.refl _ _) | (with_reducible refine below_drewN ?_ _) | (with_reducible refine Below.drew ?_) | (with_reducible refine Below.alloc ?_ ?_ _) | (with_reducible refine Below.setCell ?_ ?_ _) | (with_reducible refine Below.trans ?_ (Below.mono (by assumption) ?_)) | (with_reducible exact Nat.le_refl _) | (with_reducible assumption) | omega | (simp; omega) | (simp; done)))⟩
  case round =>
    obtain ⟨i, hi, rfl, hall, hb⟩ := hrel
    have HA := Lib.hid hall; clear hall
    by_cases hlt : i < n
    · obtain ⟨b, off, rfl, hbl, hc⟩ := HO.out (by omega)
      have hci := (hb.cell (p := ⟨b, off + i, none⟩) hbl).trans (hc i hlt)
      have HC' := Lib.hid (HC.out (l.getD i 0) wr hb)
      have HTi := Lib.hid (HT.out i hlt)
      have HB := Lib.hid hb; clear hb hc
      have hsz := HB.out.size
      generalize l.getD i 0 = x at *
      cases hx : inF (pr q) x with
      | false =>
        rw [hx] at HC'
        have HR : Hid (R = false) := Lib.hid (HTN.out (i + 1) (by omega) (by rw [HTi.out, hx, Bool.and_false]))
        clear hx
        go_wp2_with fail
        refine HC'.out.mono ?_
        rintro e w2 ⟨rfl, hb2⟩
        go_wp2
        go_ret
        exact ⟨_, rfl, by rw [HR.out]; simp, by omega, by omega, HB.out.trans (hb2.mono hsz)⟩
      | true =>
        rw [hx] at HC'
        have HA2 : Hid ((l.take (i + 1)).all (inF (pr q)) = true) := Lib.hid (by rw [HTi.out, hx, HA.out]; rfl)
        clear hx
        go_wp2_with fail
        refine HC'.out.mono ?_
        rintro e w2 ⟨rfl, hb2⟩
        have HB2 := Lib.hid (HB.out.trans (hb2.mono hsz)); clear hb2
        go_wp2
        go_roundw
        case rel => exact ⟨i + 1, by omega, by go_num, HA2.out, HB2.out⟩
        case measure => simp [intOf]; omega
    · obtain rfl : n = i := by omega
      have HB := Lib.hid hb; clear hb
      have hR : R = true := by rw [← HTF.out]; exact HA.out
      go_wp2
      go_ret
      exact ⟨-1, rfl, by rw [hR]; rfl, by omega, by omega, HB.out⟩
set_option maxHeartbeats 1000000 in
/-- slices.ContainsFunc at it. -/
theorem isRowHas (q : Int) (P : Nat) (v : Value) (l : List Int) (w : World) (hv : Sl w v l) (hl : l.length ≤ 1048576) (hP : w.heap[P]? = some (ffblk q)) :
    Calls Try.prog 135 #[v, .func (.func 134) #[] #[.pointer (some ⟨P, 0, none⟩)]] w fun e w' => e = .returned (.bool (!(l.all (inF (pr q))))) ∧ Below w.heap.size w w' := by
  have HC := Lib.hid (isRowIdx q P v l w hv hl hP)
  clear hv hP
  go_enter Try.func135, Try.ntmps135
  go_wp2_with fail
  refine HC.out.mono ?_
  rintro e w2 ⟨r, rfl, hr, _, _, hb2⟩
  have HR := Lib.hid hr; clear hr
  go_wp2
  go_ret
  exact ⟨by rw [← HR.out]; rfl, hb2⟩
set_option maxHeartbeats 2000000 in
/-- impl.field.isRow. -/
theorem isRowE (q : Int) (v : Value) (l : List Int) (w : World) (h : isSz q = true) (hv : Sl w v l) (hl : l.length ≤ 1048576) :
    Calls Try.prog 106 #[fdE q, v] w fun e w' => e = .returned (.bool (rwo q l)) ∧ Below w.heap.size w w' := by
  have hkb := plN_bd q h
  have hpl : pl q = ((plN q : Nat) : Int) := rfl
  have HH := Lib.hid (isRowHas q w.heap.size v l (w.alloc (ffblk q)) (hv.alloc _) hl (heap_alloc_new w _))
  have HW : Hid (rwo q l = ((l.length == plN q) && l.all (inF (pr q)))) := Lib.hid rfl
  obtain ⟨a, cap, rfl⟩ := hv.form
  clear hv h
  by_cases hn : l.length = plN q
  · rw [HW.out, hn]
    rw [hn] at HH
    have HX : Hid (pl q = ((plN q : Nat) : Int)) := Lib.hid hpl
    have heq : ((((plN q : Nat) : Int)) == pl q) = true := by rw [hpl]; simp
    clear HW hn hl hpl
    generalize plN q = k at *
    generalize l.all (inF (pr q)) = R at *
    go_enter Try.func106, Try.ntmps106
    go_wp2_with fail
    refine HH.out.mono ?_
    rintro e w2 ⟨rfl, hb2⟩
    go_wp2
    go_ret
    exact ⟨by simp, by (repeat' (first | (with_reducible assumption) | (with_reducible exact Below.refl _ _) | (with_reducible refine below_drewN ?_ _) | (with_reducible refine Below.drew ?_) | (with_reducible refine Below.alloc ?_ ?_ _) | (with_reducible refine Below.setCell ?_ ?_ _) | (with_reducible refine Below.trans ?_ (Below.mono (by assumption) ?_)) | (with_reducible exact Nat.le_refl _) | (with_reducible assumption) | omega | (simp; omega) | (simp; done)))⟩
  · have hf : rwo q l = false := by rw [HW.out]; simp [hn]
    rw [hf]
    have heq : ((l.length : Int) == pl q) = false := by rw [hpl]; simp; omega
    clear HW hn hpl hf HH
    generalize l.length = k at *
    go_enter Try.func106, Try.ntmps106
    go_wp2
    go_ret
    exact ⟨by first | rfl | simp, by (repeat' (first | (with_reducible assumption) | (with_reducible exact Below.refl _ _) | (with_reducible refine below_drewN ?_ _) | (with_reducible refine Below.drew ?_) | (with_reducible refine Below.alloc ?_ ?_ _) | (with_reducible refine Below.setCell ?_ ?_ _) | (with_reducible refine Below.trans ?_ (Below.mono (by assumption) ?_)) | (with_reducible exact Nat.le_refl _) | (with_reducible assumption) | omega | (simp; omega) | (simp; done)))⟩
theorem rows_all (q : Int) (F : Nat → List Int) (i : Nat) : ((List.range (i + 1)).all fun j => rwo q (F j)) = (((List.range i).all fun j => rwo q (F j)) && rwo q (F i)) := by
  rw [List.range_succ, List.all_append]
  simp
set_option maxHeartbeats 1000000 in
/-- The closure of impl.field.areRows. -/
theorem areRowsClo (q : Int) (v : Value) (l : List Int) (P : Nat) (w : World) (h : isSz q = true) (hv : Sl w v l) (hl : l.length ≤ 1048576) (hP : w.heap[P]? = some (ffblk q)) :
    Calls Try.prog 105 #[v, .pointer (some ⟨P, 0, none⟩)] w fun e w' => e = .returned (.bool (!(rwo q l))) ∧ Below w.heap.size w w' := by
  obtain ⟨x0, x1, x2, _⟩ := cells3' hP
  have hPl : P < w.heap.size := (Array.getElem?_eq_some_iff.1 hP).1
  have HE := Lib.hid (isRowE q v l w h hv hl)
  clear hP h hv
  go_enter Try.func105, Try.ntmps105
  go_wp2_with fail
  refine HE.out.mono ?_
  rintro e w2 ⟨rfl, hb2⟩
  go_wp2
  go_ret
  exact ⟨by first | rfl | simp, hb2⟩
set_option maxRecDepth 100000 in
set_option maxHeartbeats 4000000 in
/-- slices.IndexFunc at it. -/
theorem areRowsIdx (q : Int) (P n B : Nat) (v : Value) (F : Nat → List Int) (X : Nat → Value) (w : World) (h : isSz q = true) (hv : RS w B v n F X) (hn : n ≤ 1048576) (hl : ∀ i, i < n → (F i).length ≤ 1048576) (hP : w.heap[P]? = some (ffblk q)) :
    Calls Try.prog 136 #[v, .func (.func 105) #[] #[.pointer (some ⟨P, 0, none⟩)]] w fun e w' => ∃ r : Int, e = .returned (.int .i64 r) ∧ decide (0 ≤ r) = (!((List.range n).all fun i => rwo q (F i))) ∧ -1 ≤ r ∧ r ≤ 1048576 ∧ Below w.heap.size w w' := by
  have hPl : P < w.heap.size := (Array.getElem?_eq_some_iff.1 hP).1
  have HC := Lib.hid (fun i (hi : i < n) w' (hb : Below w.heap.size w w') => areRowsClo q (X i) (F i) P w' h (((hv.below hb).inner i hi).sl) (hl i hi) ((hb.block _ hPl).trans hP))
  have HF : Hid (∀ i, i < n → ∃ a c, X i = .slice a (F i).length c) := Lib.hid fun i hi => (hv.inner i hi).sl.form
  obtain ⟨a, cap, hva, HO⟩ : ∃ a cap, v = .slice a n cap ∧ Hid (0 < n → ∃ b, a = some ⟨b, 0, none⟩ ∧ b < w.heap.size ∧ ∀ i, i < n → w.cell? ⟨b, i, none⟩ = some (X i)) := by
    by_cases h0 : 0 < n
    · obtain ⟨b, cap, rfl, _, hb, hc⟩ := hv.form h0
      exact ⟨_, cap, rfl, Lib.hid fun _ => ⟨b, rfl, hb, hc⟩⟩
    · obtain ⟨a, cap, e⟩ := hv.slc
      exact ⟨a, cap, e, Lib.hid fun h => absurd h h0⟩
  subst hva
  have HT := Lib.hid (rows_all q F)
  have HT0 : Hid (((List.range 0).all fun j => rwo q (F j)) = true) := Lib.hid rfl
  have HTN : Hid (∀ i, i < n → rwo q (F i) = false → ((List.range n).all fun j => rwo q (F j)) = false) := Lib.hid fun i hi h => by
    cases ha : ((List.range n).all fun j => rwo q (F j)) with
    | false => rfl
    | true => rw [List.all_eq_true.1 ha i (List.mem_range.2 hi)] at h; cases h
  have HTF : Hid (∀ i, i = n → ((List.range i).all fun j => rwo q (F j)) = true → ((List.range n).all fun j => rwo q (F j)) = true) := Lib.hid (by rintro i rfl h; exact h)
  clear hv hP hl h
  generalize ((List.range n).all fun j => rwo q (F j)) = R at *
  go_enter Try.func136, Try.ntmps136
  go_wp2_with fail
  go_loopw [8] (fun vi wr => ∃ i : Nat, i ≤ n ∧ vi = .int .i64 i ∧ ((List.range i).all fun j => rwo q (F j)) = true ∧ Below w.heap.size w wr) (fun vi _ => n - (intOf vi).toNat)
  case atStart => exact ⟨0, Nat.zero_le _, rfl, HT0.out, by (repeat' (first | (with_reducible assumption) | (with_reducible exact Below.refl _ _) | (with_reducible refine below_drewN ?_ _) | (with_reducible refine Below.drew ?_) | (with_reducible refine Below.alloc ?_ ?_ _) | (with_reducible refine Below.setCell ?_ ?_ _) | (with_reducible refine Below.trans ?_ (Below.mono (by assumption) ?_)) | (with_reducible exact Nat.le_refl _) | (with_reducible assumption) | omega | (simp; omega) | (simp; done)))⟩
  case round =>
    obtain ⟨i, hi, rfl, hall, hb⟩ := hrel
    have HA := Lib.hid hall; clear hall
    by_cases hlt : i < n
    · obtain ⟨b, rfl, hbl, hc⟩ := HO.out (by omega)
      have hci := (hb.cell (p := ⟨b, i, none⟩) hbl).trans (hc i hlt)
      have HC' := Lib.hid (HC.out i hlt wr hb)
      have HTi := Lib.hid (HT.out i)
      have HNi := Lib.hid (HTN.out i hlt)
      obtain ⟨ax, cx, hxf⟩ := HF.out i hlt
      rw [hxf] at hci HC'
      have HB := Lib.hid hb; clear hb hc hxf
      have hsz := HB.out.size
      generalize F i = l at *
      cases hx : rwo q l with
      | false =>
        rw [hx] at HC'
        have HR : Hid (R = false) := Lib.hid (HNi.out hx)
        clear hx
        generalize l.length = lf at *
        go_wp2_with fail
        refine HC'.out.mono ?_
        rintro e w2 ⟨rfl, hb2⟩
        go_wp2
        go_ret
        exact ⟨_, rfl, by rw [HR.out]; simp, by omega, by omega, HB.out.trans (hb2.mono hsz)⟩
      | true =>
        rw [hx] at HC'
        have HA2 : Hid (((List.range (i + 1)).all fun j => rwo q (F j)) = true) := Lib.hid (by rw [HTi.out, hx, HA.out]; rfl)
        clear hx
        generalize l.length = lf at *
        go_wp2_with fail
        refine HC'.out.mono ?_
        rintro e w2 ⟨rfl, hb2⟩
        have HB2 := Lib.hid (HB.out.trans (hb2.mono hsz)); clear hb2
        go_wp2
        go_roundw
        case rel => exact ⟨i + 1, by omega, by go_num, HA2.out, HB2.out⟩
        case measure => simp [intOf]; omega
    · have HB := Lib.hid hb; clear hb
      have hR : R = true := HTF.out i (by omega) HA.out
      obtain rfl : n = i := by omega
      go_wp2
      go_ret
      exact ⟨-1, rfl, by rw [hR]; rfl, by omega, by omega, HB.out⟩
set_option maxHeartbeats 1000000 in
/-- slices.ContainsFunc at it. -/
theorem areRowsHas (q : Int) (P n B : Nat) (v : Value) (F : Nat → List Int) (X : Nat → Value) (w : World) (h : isSz q = true) (hv : RS w B v n F X) (hn : n ≤ 1048576) (hl : ∀ i, i < n → (F i).length ≤ 1048576) (hP : w.heap[P]? = some (ffblk q)) :
    Calls Try.prog 107 #[v, .func (.func 105) #[] #[.pointer (some ⟨P, 0, none⟩)]] w fun e w' => e = .returned (.bool (!((List.range n).all fun i => rwo q (F i)))) ∧ Below w.heap.size w w' := by
  have HC := Lib.hid (areRowsIdx q P n B v F X w h hv hn hl hP)
  clear hv hP hl h
  go_enter Try.func107, Try.ntmps107
  go_wp2_with fail
  refine HC.out.mono ?_
  rintro e w2 ⟨r, rfl, hr, _, _, hb2⟩
  have HR := Lib.hid hr; clear hr
  go_wp2
  go_ret
  exact ⟨by rw [← HR.out]; rfl, hb2⟩
set_option maxHeartbeats 2000000 in
/-- impl.field.areRows. -/
theorem areRowsE (q : Int) (n B : Nat) (v : Value) (F : Nat → List Int) (X : Nat → Value) (w : World) (h : isSz q = true) (hv : RS w B v n F X) (hn : n ≤ 1048576) (hl : ∀ i, i < n → (F i).length ≤ 1048576) :
    Calls Try.prog 70 #[fdE q, v] w fun e w' => e = .returned (.bool (rws q n F)) ∧ Below w.heap.size w w' := by
  have hkb := plN_bd q h
  have hpl : pl q = ((plN q : Nat) : Int) := rfl
  have HH := Lib.hid (areRowsHas q w.heap.size n B v F X (w.alloc (ffblk q)) h (hv.alloc _) hn hl (heap_alloc_new w _))
  have HW : Hid (rws q n F = ((n == plN q) && (List.range n).all fun i => rwo q (F i))) := Lib.hid rfl
  obtain ⟨a, cap, rfl⟩ := hv.slc
  clear hv h hl
  by_cases hnk : n = plN q
  · have heq : ((n : Int) == pl q) = true := by rw [hpl, hnk]; simp
    have hq1 : (n == plN q) = true := by rw [hnk]; simp
    rw [HW.out, hq1]
    clear HW hnk hpl hq1
    generalize ((List.range n).all fun i => rwo q (F i)) = R at *
    go_enter Try.func70, Try.ntmps70
    go_wp2_with fail
    refine HH.out.mono ?_
    rintro e w2 ⟨rfl, hb2⟩
    go_wp2
    go_ret
    exact ⟨by simp, by (repeat' (first | (with_reducible assumption) | (with_reducible exact Below.refl _ _) | (with_reducible refine below_drewN ?_ _) | (with_reducible refine Below.drew ?_) | (with_reducible refine Below.alloc ?_ ?_ _) | (with_reducible refine Below.setCell ?_ ?_ _) | (with_reducible refine Below.trans ?_ (Below.mono (by assumption) ?_)) | (with_reducible exact Nat.le_refl _) | (with_reducible assumption) | omega | (simp; omega) | (simp; done)))⟩
  · have hf : rws q n F = false := by rw [HW.out]; simp [hnk]
    rw [hf]
    have heq : ((n : Int) == pl q) = false := by rw [hpl]; simp; omega
    clear HW hnk hpl hf HH
    go_enter Try.func70, Try.ntmps70
    go_wp2
    go_ret
    exact ⟨by first | rfl | simp, by (repeat' (first | (with_reducible assumption) | (with_reducible exact Below.refl _ _) | (with_reducible refine below_drewN ?_ _) | (with_reducible refine Below.drew ?_) | (with_reducible refine Below.alloc ?_ ?_ _) | (with_reducible refine Below.setCell ?_ ?_ _) | (with_reducible refine Below.trans ?_ (Below.mono (by assumption) ?_)) | (with_reducible exact Nat.le_refl _) | (with_reducible assumption) | omega | (simp; omega) | (simp; done)))⟩
end Go.Proofs.Ytlamclhhocofiaa
