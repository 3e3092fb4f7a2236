/- Polynomials and tables told from other lists: spec.l1All, plGood, plTable; impl.field.has, hasAll, isPoly, isTable by contracts. -/
import Derived.Test.YthklnfanbegecacDoorHB
import Derived.Test.YthklnfanbegecacDoorK
namespace Go.Proofs.YthklnfanbegecacDoor
open Go.RowKit
/-- x is an element's number. -/
def inF (q x : Int) : Bool := decide (0 ≤ x) && decide (x < q)
/-- The list is a polynomial. -/
def good (q : Int) (l : List Int) : Bool := decide ((l.length : Int) ≤ q) && (l.all (inF q) && (decide (l.length = 0) || decide (0 < l.getD (l.length - 1) 0)))
/-- The list is a table. -/
def tabl (q : Int) (l : List Int) : Bool := decide ((l.length : Int) = q) && l.all (inF q)
theorem all_take_succ (P : Int → Bool) (l : List Int) (i : Nat) (h : i < l.length) : (l.take (i + 1)).all P = ((l.take i).all P && P (l.getD i 0)) := by
  rw [take_succ_getD l i h, List.all_append]
  simp [List.getD]
theorem all_false_of (P : Int → Bool) (l : List Int) (i : Nat) (h : i < l.length) (hp : P (l.getD i 0) = false) : l.all P = false := by
  rw [List.all_eq_false]
  refine ⟨l.getD i 0, ?_, by rw [hp]; simp⟩
  rw [show l.getD i 0 = l[i] by simp [List.getD, h]]
  exact List.getElem_mem h

set_option maxHeartbeats 1000000 in
/-- spec.l1All. -/
theorem l1All_any (v : Value) (l : List Int) (lo hi : Int) (w : World) (h : Sl w v l) (hl : l.length ≤ 1048576) :
    Calls Tryd.prog 27 #[v, .int .i64 lo, .int .i64 hi] w fun e w' => e = .returned (.bool (l.all fun x => decide (lo ≤ x) && decide (x ≤ hi))) ∧ w = w' := by
  by_cases h0 : 0 < l.length
  · obtain ⟨b, off, cap, rfl, hb, hc⟩ := h.open rfl h0
    have HC := Lib.hid hc; clear hc h
    have HT := Lib.hid (all_take_succ (fun x => decide (lo ≤ x) && decide (x ≤ hi)) l)
    have HF := Lib.hid (all_false_of (fun x => decide (lo ≤ x) && decide (x ≤ hi)) l)
    have HE : Hid (l.take l.length = l) := Lib.hid (List.take_of_length_le (Nat.le_refl _))
    generalize hn : l.length = n at *
    have HN := Lib.hid hn; clear hn
    go_enter Tryd.func27, Tryd.ntmps27
    go_wp2_with fail
    go_loop [11] (fun vi => ∃ i : Nat, i ≤ n ∧ vi = .int .i64 i ∧ (l.take i).all (fun x => decide (lo ≤ x) && decide (x ≤ hi)) = true) (fun vi => n - (intOf vi).toNat)
    case atStart => exact ⟨0, Nat.zero_le _, rfl, by simp⟩
    case round =>
      obtain ⟨i, hi', rfl, hall⟩ := hrel
      have HA := Lib.hid hall; clear hall
      by_cases hlt : i < n
      · have hc := HC.out i hlt
        have HT' := Lib.hid (HT.out i hlt)
        have HF' := Lib.hid (HF.out i hlt)
        clear HT HF
        generalize l.getD i 0 = u at *
        cases hp : decide (lo ≤ u) && decide (u ≤ hi) with
        | true =>
          have HP := Lib.hid hp; clear hp
          go_wp2_with fail
          refine (l1In_any _ _ _ _).mono ?_
          rintro e w1 ⟨rfl, rfl⟩
          rw [HP.out]
          go_wp2
          go_round
          case rel => exact ⟨i + 1, by omega, by go_num, by rw [HT'.out, HA.out, HP.out]; rfl⟩
          case measure => simp [intOf]; omega
        | false =>
          have HP := Lib.hid hp; clear hp
          go_wp2_with fail
          refine (l1In_any _ _ _ _).mono ?_
          rintro e w1 ⟨rfl, rfl⟩
          rw [HP.out]
          go_wp2
          go_ret
          exact ⟨ret_bool (HF'.out HP.out).symm, rfl⟩
      · obtain rfl : n = i := by omega
        go_wp2
        go_ret
        exact ⟨ret_bool (by have := HA.out; rw [HE.out] at this; exact this.symm), rfl⟩
  · obtain rfl : l = [] := List.length_eq_zero_iff.1 (by omega)
    obtain ⟨a, cap, rfl⟩ := h.empty
    clear h h0 hl
    go_enter Tryd.func27, Tryd.ntmps27
    go_wp2_with fail
    (refine wp_loop_rounds 1 ?_; repeat any_goals (rw [rounds_succ]; go_wp2))
    go_wp2
    go_ret
    exact ⟨rfl, rfl⟩
theorem all_inF (q : Int) (l : List Int) : (l.all fun x => decide (0 ≤ x) && decide (x ≤ q - 1)) = l.all (inF q) := by
  congr 1
  funext x
  unfold inF
  congr 1
  exact decide_eq_decide.2 (by omega)

/-- impl.field.has. -/
theorem fhas_any (q a : Int) (w : World) :
    Calls Tryd.prog 32 #[fdE q, .int .i64 a] w fun e w' => e = .returned (.bool (inF q a)) ∧ Below w.heap.size w w' := by
  by_cases h0 : 0 ≤ a
  · by_cases h1 : a < q
    · have e : inF q a = true := by simp [inF, h0, h1]
      rw [e]
      exact has_yes q a w h0 h1
    · have e : inF q a = false := by simp [inF, h1]
      rw [e]
      exact has_high q a w h0 (by omega)
  · have e : inF q a = false := by simp [inF, h0]
    rw [e]
    exact has_low q a w (by omega)

set_option maxHeartbeats 1000000 in
/-- impl.field.hasAll. -/
theorem hasAll_any (q : Int) (v : Value) (l : List Int) (w : World) (h : Sl w v l) (hl : l.length ≤ 1048576) :
    Calls Tryd.prog 21 #[fdE q, v] w fun e w' => e = .returned (.bool (l.all (inF q))) ∧ Below w.heap.size w w' := by
  by_cases h0 : 0 < l.length
  · obtain ⟨b, off, cap, rfl, hb, hc⟩ := h.open rfl h0
    have HC := Lib.hid hc; clear hc h
    have HT := Lib.hid (all_take_succ (inF q) l)
    have HF := Lib.hid (all_false_of (inF q) l)
    have HE : Hid (l.take l.length = l) := Lib.hid (List.take_of_length_le (Nat.le_refl _))
    have HX := Lib.hid (fun a w => fhas_any q a w)
    generalize hn : l.length = n at *
    have HN := Lib.hid hn; clear hn
    go_enter Tryd.func21, Tryd.ntmps21
    go_wp2_with fail
    go_loopw [9] (fun vi wr => ∃ i : Nat, i ≤ n ∧ vi = .int .i64 i ∧ (l.take i).all (inF q) = true ∧ wr.heap[w.heap.size]? = some (.cells #[.int .i64 q, .int .i64 (pr q), .int .i64 (pl q)] 29) ∧ Below w.heap.size w wr) (fun vi _ => n - (intOf vi).toNat)
    case atStart => exact ⟨0, Nat.zero_le _, rfl, by simp, heap_alloc_new _ _, by (repeat' (first | (with_reducible assumption) | (with_reducible exact Below.refl _ _) | (with_reducible refine below_drewN ?_ _) | (with_reducible refine Below.drew ?_) | (with_reducible refine Below.alloc ?_ ?_ _) | (with_reducible refine Below.setCell ?_ ?_ _) | (with_reducible refine Below.trans ?_ (Below.mono (by assumption) ?_)) | (with_reducible exact Nat.le_refl _) | (with_reducible assumption) | omega | (simp; omega) | (simp; done)))⟩
    case round =>
      obtain ⟨i, hi', rfl, hall, hf, hbw⟩ := hrel
      have HA := Lib.hid hall; clear hall
      have f0 : wr.cell? ⟨w.heap.size, 0, none⟩ = some (.int .i64 q) := by rw [cell_of_row wr _ _ _ _ (0, 0) hf]; rfl
      have f1 : wr.cell? ⟨w.heap.size, 1, none⟩ = some (.int .i64 (pr q)) := by rw [cell_of_row wr _ _ _ _ (0, 0) hf]; rfl
      have f2 : wr.cell? ⟨w.heap.size, 2, none⟩ = some (.int .i64 (pl q)) := by rw [cell_of_row wr _ _ _ _ (0, 0) hf]; rfl
      have hfl : w.heap.size < wr.heap.size := (Array.getElem?_eq_some_iff.1 hf).1
      by_cases hlt : i < n
      · have hc := (hbw.cell (p := ⟨b, off + i, none⟩) hb).trans (HC.out i hlt)
        have HT' := Lib.hid (HT.out i hlt)
        have HF' := Lib.hid (HF.out i hlt)
        have HFF := Lib.hid hf; clear hf
        have HBW := Lib.hid hbw; clear hbw
        clear HT HF
        generalize l.getD i 0 = u at *
        cases hp : inF q u with
        | true =>
          have hx := HX.out u
          rw [hp] at hx
          have HX' := Lib.hid hx; clear hx
          have HP := Lib.hid hp; clear hp
          go_wp2_with fail
          refine (HX'.out _).mono ?_
          rintro e w1 ⟨rfl, hb1⟩
          have HB1 := Lib.hid hb1; clear hb1
          go_wp2
          go_roundw
          case rel => exact ⟨i + 1, by omega, by go_num, by rw [HT'.out, HA.out, HP.out]; rfl, (HB1.out.block _ hfl).trans HFF.out, HBW.out.trans (HB1.out.mono (by omega))⟩
          case measure => simp [intOf]; omega
        | false =>
          have hx := HX.out u
          rw [hp] at hx
          have HX' := Lib.hid hx; clear hx
          have HP := Lib.hid hp; clear hp
          go_wp2_with fail
          refine (HX'.out _).mono ?_
          rintro e w1 ⟨rfl, hb1⟩
          have HB1 := Lib.hid hb1; clear hb1
          go_wp2
          go_ret
          exact ⟨ret_bool (HF'.out HP.out).symm, HBW.out.trans (HB1.out.mono (by omega))⟩
      · obtain rfl : n = i := by omega
        have HBW := Lib.hid hbw; clear hbw
        go_wp2
        go_ret
        exact ⟨ret_bool (by have := HA.out; rw [HE.out] at this; exact this.symm), HBW.out⟩
  · obtain rfl : l = [] := List.length_eq_zero_iff.1 (by omega)
    obtain ⟨a, cap, rfl⟩ := h.empty
    clear h h0 hl
    go_enter Tryd.func21, Tryd.ntmps21
    go_wp2_with fail
    (refine wp_loop_rounds 1 ?_; repeat any_goals (rw [rounds_succ]; go_wp2))
    go_wp2
    go_ret
    exact ⟨rfl, by (repeat' (first | (with_reducible assumption) | (with_reducible exact Below.refl _ _) | (with_reducible refine below_drewN ?_ _) | (with_reducible refine Below.drew ?_) | (with_reducible refine Below.alloc ?_ ?_ _) | (with_reducible refine Below.setCell ?_ ?_ _) | (with_reducible refine Below.trans ?_ (Below.mono (by assumption) ?_)) | (with_reducible exact Nat.le_refl _) | (with_reducible assumption) | omega | (simp; omega) | (simp; done)))⟩
end Go.Proofs.YthklnfanbegecacDoor
