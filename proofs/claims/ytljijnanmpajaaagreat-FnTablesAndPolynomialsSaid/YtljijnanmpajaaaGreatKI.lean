/- A bundle of texts: HD HE FC FG HP HX HY. -/
import Derived.Laws.AppendOwnNone
import Derived.Laws.CopyOwn
import Derived.Test.YtljijnanmpajaaaGreatKC
import Derived.Test.YtljijnanmpajaaaGreatKE
import Derived.Test.YtljijnanmpajaaaGreatKG
import Derived.Test.YtljijnanmpajaaaGreatKA
namespace Go.Proofs.YtljijnanmpajaaaGreat
open Go.RowKit
/-- x is an element's number. -/
def inF (q x : Int) : Bool := decide (0 ≤ x) && decide (x < q)
/-- The list is a polynomial. -/
def good (q : Int) (l : List Int) : Bool := decide ((l.length : Int) ≤ q) && (l.all (inF q) && (decide (l.length = 0) || decide (0 < l.getD (l.length - 1) 0)))
/-- The list is a table. -/
def tabl (q : Int) (l : List Int) : Bool := decide ((l.length : Int) = q) && l.all (inF q)
theorem all_take_succ (P : Int → Bool) (l : List Int) (i : Nat) (h : i < l.length) : (l.take (i + 1)).all P = ((l.take i).all P && P (l.getD i 0)) := by
  rw [take_succ_getD l i h, List.all_append]
  simp [List.getD]
theorem all_false_of (P : Int → Bool) (l : List Int) (i : Nat) (h : i < l.length) (hp : P (l.getD i 0) = false) : l.all P = false := by
  rw [List.all_eq_false]
  refine ⟨l.getD i 0, ?_, by rw [hp]; simp⟩
  rw [show l.getD i 0 = l[i] by simp [List.getD, h]]
  exact List.getElem_mem h

set_option maxHeartbeats 1000000 in
/-- spec.l1All. -/
theorem l1All_any (v : Value) (l : List Int) (lo hi : Int) (w : World) (h : Sl w v l) (hl : l.length ≤ 1048576) :
    Calls Tryz.prog 110 #[v, .int .i64 lo, .int .i64 hi] w fun e w' => e = .returned (.bool (l.all fun x => decide (lo ≤ x) && decide (x ≤ hi))) ∧ w = w' := by
  by_cases h0 : 0 < l.length
  · obtain ⟨b, off, cap, rfl, hb, hc⟩ := h.open rfl h0
    have HC := Lib.hid hc; clear hc h
    have HT := Lib.hid (all_take_succ (fun x => decide (lo ≤ x) && decide (x ≤ hi)) l)
    have HF := Lib.hid (all_false_of (fun x => decide (lo ≤ x) && decide (x ≤ hi)) l)
    have HE : Hid (l.take l.length = l) := Lib.hid (List.take_of_length_le (Nat.le_refl _))
    generalize hn : l.length = n at *
    have HN := Lib.hid hn; clear hn
    go_enter Tryz.func110, Tryz.ntmps110
    go_wp2_with fail
    go_loop [11] (fun vi => ∃ i : Nat, i ≤ n ∧ vi = .int .i64 i ∧ (l.take i).all (fun x => decide (lo ≤ x) && decide (x ≤ hi)) = true) (fun vi => n - (intOf vi).toNat)
    case atStart => exact ⟨0, Nat.zero_le _, rfl, by simp⟩
    case round =>
      obtain ⟨i, hi', rfl, hall⟩ := hrel
      have HA := Lib.hid hall; clear hall
      by_cases hlt : i < n
      · have hc := HC.out i hlt
        have HT' := Lib.hid (HT.out i hlt)
        have HF' := Lib.hid (HF.out i hlt)
        clear HT HF
        generalize l.getD i 0 = u at *
        cases hp : decide (lo ≤ u) && decide (u ≤ hi) with
        | true =>
          have HP := Lib.hid hp; clear hp
          go_wp2_with fail
          refine (l1In_any _ _ _ _).mono ?_
          rintro e w1 ⟨rfl, rfl⟩
          rw [HP.out]
          go_wp2
          go_round
          case rel => exact ⟨i + 1, by omega, by go_num, by rw [HT'.out, HA.out, HP.out]; rfl⟩
          case measure => simp [intOf]; omega
        | false =>
          have HP := Lib.hid hp; clear hp
          go_wp2_with fail
          refine (l1In_any _ _ _ _).mono ?_
          rintro e w1 ⟨rfl, rfl⟩
          rw [HP.out]
          go_wp2
          go_ret
          exact ⟨ret_bool (HF'.out HP.out).symm, rfl⟩
      · obtain rfl : n = i := by omega
        go_wp2
        go_ret
        exact ⟨ret_bool (by have := HA.out; rw [HE.out] at this; exact this.symm), rfl⟩
  · obtain rfl : l = [] := List.length_eq_zero_iff.1 (by omega)
    obtain ⟨a, cap, rfl⟩ := h.empty
    clear h h0 hl
    go_enter Tryz.func110, Tryz.ntmps110
    go_wp2_with fail
    (refine wp_loop_rounds 1 ?_; repeat any_goals (rw [rounds_succ]; go_wp2))
    go_wp2
    go_ret
    exact ⟨rfl, rfl⟩
theorem all_inF (q : Int) (l : List Int) : (l.all fun x => decide (0 ≤ x) && decide (x ≤ q - 1)) = l.all (inF q) := by
  congr 1
  funext x
  unfold inF
  congr 1
  exact decide_eq_decide.2 (by omega)

/-- impl.field.has. -/
theorem fhas_any (q a : Int) (w : World) :
    Calls Tryz.prog 181 #[fdE q, .int .i64 a] w fun e w' => e = .returned (.bool (inF q a)) ∧ Below w.heap.size w w' := by
  by_cases h0 : 0 ≤ a
  · by_cases h1 : a < q
    · have e : inF q a = true := by simp [inF, h0, h1]
      rw [e]
      exact has_yes q a w h0 h1
    · have e : inF q a = false := by simp [inF, h1]
      rw [e]
      exact has_high q a w h0 (by omega)
  · have e : inF q a = false := by simp [inF, h0]
    rw [e]
    exact has_low q a w (by omega)

set_option maxHeartbeats 1000000 in
/-- impl.field.hasAll. -/
theorem hasAll_any (q : Int) (v : Value) (l : List Int) (w : World) (h : Sl w v l) (hl : l.length ≤ 1048576) :
    Calls Tryz.prog 108 #[fdE q, v] w fun e w' => e = .returned (.bool (l.all (inF q))) ∧ Below w.heap.size w w' := by
  by_cases h0 : 0 < l.length
  · obtain ⟨b, off, cap, rfl, hb, hc⟩ := h.open rfl h0
    have HC := Lib.hid hc; clear hc h
    have HT := Lib.hid (all_take_succ (inF q) l)
    have HF := Lib.hid (all_false_of (inF q) l)
    have HE : Hid (l.take l.length = l) := Lib.hid (List.take_of_length_le (Nat.le_refl _))
    have HX := Lib.hid (fun a w => fhas_any q a w)
    generalize hn : l.length = n at *
    have HN := Lib.hid hn; clear hn
    go_enter Tryz.func108, Tryz.ntmps108
    go_wp2_with fail
    go_loopw [9] (fun vi wr => ∃ i : Nat, i ≤ n ∧ vi = .int .i64 i ∧ (l.take i).all (inF q) = true ∧ wr.heap[w.heap.size]? = some (.cells #[.int .i64 q, .int .i64 (pr q), .int .i64 (pl q)] 57) ∧ Below w.heap.size w wr) (fun vi _ => n - (intOf vi).toNat)
    case atStart => exact ⟨0, Nat.zero_le _, rfl, by simp, heap_alloc_new _ _, by (repeat' (first | (with_reducible assumption) | (with_reducible exact Below.refl _ _) | (with_reducible refine below_drewN ?_ _) | (with_reducible refine Below.drew ?_) | (with_reducible refine Below.alloc ?_ ?_ _) | (with_reducible refine Below.setCell ?_ ?_ _) | (with_reducible refine Below.trans ?_ (Below.mono (by assumption) ?_)) | (with_reducible exact Nat.le_refl _) | (with_reducible assumption) | omega | (simp; omega) | (simp; done)))⟩
    case round =>
      obtain ⟨i, hi', rfl, hall, hf, hbw⟩ := hrel
      have HA := Lib.hid hall; clear hall
      have f0 : wr.cell? ⟨w.heap.size, 0, none⟩ = some (.int .i64 q) := by rw [cell_of_row wr _ _ _ _ (0, 0) hf]; rfl
      have f1 : wr.cell? ⟨w.heap.size, 1, none⟩ = some (.int .i64 (pr q)) := by rw [cell_of_row wr _ _ _ _ (0, 0) hf]; rfl
      have f2 : wr.cell? ⟨w.heap.size, 2, none⟩ = some (.int .i64 (pl q)) := by rw [cell_of_row wr _ _ _ _ (0, 0) hf]; rfl
      have hfl : w.heap.size < wr.heap.size := (Array.getElem?_eq_some_iff.1 hf).1
      by_cases hlt : i < n
      · have hc := (hbw.cell (p := ⟨b, off + i, none⟩) hb).trans (HC.out i hlt)
        have HT' := Lib.hid (HT.out i hlt)
        have HF' := Lib.hid (HF.out i hlt)
        have HFF := Lib.hid hf; clear hf
        have HBW := Lib.hid hbw; clear hbw
        clear HT HF
        generalize l.getD i 0 = u at *
        cases hp : inF q u with
        | true =>
          have hx := HX.out u
          rw [hp] at hx
          have HX' := Lib.hid hx; clear hx
          have HP := Lib.hid hp; clear hp
          go_wp2_with fail
          refine (HX'.out _).mono ?_
          rintro e w1 ⟨rfl, hb1⟩
          have HB1 := Lib.hid hb1; clear hb1
          go_wp2
          go_roundw
          case rel => exact ⟨i + 1, by omega, by go_num, by rw [HT'.out, HA.out, HP.out]; rfl, (HB1.out.block _ hfl).trans HFF.out, HBW.out.trans (HB1.out.mono (by omega))⟩
          case measure => simp [intOf]; omega
        | false =>
          have hx := HX.out u
          rw [hp] at hx
          have HX' := Lib.hid hx; clear hx
          have HP := Lib.hid hp; clear hp
          go_wp2_with fail
          refine (HX'.out _).mono ?_
          rintro e w1 ⟨rfl, hb1⟩
          have HB1 := Lib.hid hb1; clear hb1
          go_wp2
          go_ret
          exact ⟨ret_bool (HF'.out HP.out).symm, HBW.out.trans (HB1.out.mono (by omega))⟩
      · obtain rfl : n = i := by omega
        have HBW := Lib.hid hbw; clear hbw
        go_wp2
        go_ret
        exact ⟨ret_bool (by have := HA.out; rw [HE.out] at this; exact this.symm), HBW.out⟩
  · obtain rfl : l = [] := List.length_eq_zero_iff.1 (by omega)
    obtain ⟨a, cap, rfl⟩ := h.empty
    clear h h0 hl
    go_enter Tryz.func108, Tryz.ntmps108
    go_wp2_with fail
    (refine wp_loop_rounds 1 ?_; repeat any_goals (rw [rounds_succ]; go_wp2))
    go_wp2
    go_ret
    exact ⟨rfl, by (repeat' (first | (with_reducible assumption) | (with_reducible exact Below.refl _ _) | (with_reducible refine below_drewN ?_ _) | (with_reducible refine Below.drew ?_) | (with_reducible refine Below.alloc ?_ ?_ _) | (with_reducible refine Below.setCell ?_ ?_ _) | (with_reducible refine Below.trans ?_ (Below.mono (by assumption) ?_)) | (with_reducible exact Nat.le_refl _) | (with_reducible assumption) | omega | (simp; omega) | (simp; done)))⟩
theorem good_long {q : Int} {l : List Int} (h : ¬ (l.length : Int) ≤ q) : good q l = false := by simp [good, h]
theorem good_out {q : Int} {l : List Int} (h : l.all (inF q) = false) : good q l = false := by simp [good, h]
theorem good_nil (q : Int) (h : 0 ≤ q) : good q [] = true := by simp [good, h]
theorem good_last {q : Int} {l : List Int} (h : (l.length : Int) ≤ q) (ha : l.all (inF q) = true) (h0 : 0 < l.length) : good q l = decide (0 < l.getD (l.length - 1) 0) := by
  have : ¬ l.length = 0 := by omega
  simp [good, h, ha, this]
theorem last_bd {q : Int} {l : List Int} (ha : l.all (inF q) = true) (h0 : 0 < l.length) : 0 ≤ l.getD (l.length - 1) 0 ∧ l.getD (l.length - 1) 0 < q := by
  have h := List.all_eq_true.1 ha (l.getD (l.length - 1) 0) (by
    have h1 : l.length - 1 < l.length := by omega
    rw [show l.getD (l.length - 1) 0 = l[l.length - 1] by simp [List.getD, h1]]
    exact List.getElem_mem _)
  simpa [inF] using h

set_option maxHeartbeats 1000000 in
/-- spec.plGood. -/
theorem plGood_any (q : Int) (v : Value) (l : List Int) (w : World) (h : Sl w v l) (hl : l.length ≤ 1048576) :
    Calls Tryz.prog 87 #[.int .i64 q, v] w fun e w' => e = .returned (.bool (isSz q && good q l)) ∧ Below w.heap.size w w' := by
  have HL := Lib.hid (fun w' (hb : Below w.heap.size w w') => by have := l1All_any v l 0 (q - 1) w' (h.below hb (Nat.le_refl _)) hl; rw [all_inF] at this; exact this)
  by_cases h0 : 0 < l.length
  · obtain ⟨b, off, cap, rfl, hb, hc⟩ := h.open rfl h0
    have hlast := hc (l.length - 1) (by omega)
    cases hs : isSz q with
    | false =>
      clear h hc hlast
      generalize hn : l.length = n at *
      have HS := Lib.hid hs; clear hs hn
      go_enter Tryz.func87, Tryz.ntmps87
      go_wp2_with fail
      refine (fdSize_any _ _).mono ?_
      rintro e w1 ⟨rfl, hb1⟩
      rw [HS.out]
      go_wp2
      go_ret
      exact ⟨rfl, hb1⟩
    | true =>
      have hq := isSz_le q hs
      have hz : ((l.length : Int) - 1) = ((l.length - 1 : Nat) : Int) := by omega
      by_cases hlen : (l.length : Int) ≤ q
      · cases hall : l.all (inF q) with
        | false =>
          have HG := Lib.hid (good_out hall)
          have HL' := Lib.hid (fun w' hb => by have := HL.out w' hb; rw [hall] at this; exact this)
          clear h hc hlast HL hall
          generalize hn : l.length = n at *
          have HS := Lib.hid hs; clear hs hn
          go_enter Tryz.func87, Tryz.ntmps87
          go_wp2_with fail
          refine (fdSize_any _ _).mono ?_
          rintro e w1 ⟨rfl, hb1⟩
          rw [HS.out]
          go_wp2_with fail
          refine (HL'.out _ hb1).mono ?_
          rintro e w2 ⟨rfl, rfl⟩
          go_wp2
          go_ret
          exact ⟨ret_bool (by rw [HG.out]; rfl), hb1⟩
        | true =>
          obtain ⟨u0, u1⟩ := last_bd hall h0
          have HG := Lib.hid (good_last hlen hall h0)
          have HL' := Lib.hid (fun w' hb => by have := HL.out w' hb; rw [hall] at this; exact this)
          have HC : Hid (∀ w', Below w.heap.size w w' → w'.cell? ⟨b, off + (l.length - 1), none⟩ = some (.int .i64 (l.getD (l.length - 1) 0))) := Lib.hid (fun w' hbb => (hbb.cell (p := ⟨b, off + (l.length - 1), none⟩) hb).trans hlast)
          clear h hc hlast HL hall
          generalize l.getD (l.length - 1) 0 = u at *
          generalize hn : l.length = n at *
          have HS := Lib.hid hs; clear hs hn
          have hne : ((n : Int) == 0) = false := by simp; omega
          have hi1 : (0 : Int) ≤ (n : Int) - 1 := by omega
          go_enter Tryz.func87, Tryz.ntmps87
          go_wp2_with fail
          refine (fdSize_any _ _).mono ?_
          rintro e w1 ⟨rfl, hb1⟩
          rw [HS.out]
          have hcell := HC.out w1 hb1
          go_wp2_with fail
          refine (HL'.out _ hb1).mono ?_
          rintro e w2 ⟨rfl, rfl⟩
          go_wp2
          go_ret
          exact ⟨ret_bool (by rw [HG.out]; rfl), hb1⟩
      · have HG := Lib.hid (good_long hlen)
        clear h hc hlast HL
        generalize hn : l.length = n at *
        have HS := Lib.hid hs; clear hs hn
        go_enter Tryz.func87, Tryz.ntmps87
        go_wp2_with fail
        refine (fdSize_any _ _).mono ?_
        rintro e w1 ⟨rfl, hb1⟩
        rw [HS.out]
        go_wp2
        go_ret
        exact ⟨ret_bool (by rw [HG.out]), hb1⟩
  · obtain rfl : l = [] := List.length_eq_zero_iff.1 (by omega)
    obtain ⟨a, cap, rfl⟩ := h.empty
    cases hs : isSz q with
    | false =>
      have HS := Lib.hid hs
      clear h h0 hl hs
      go_enter Tryz.func87, Tryz.ntmps87
      go_wp2_with fail
      refine (fdSize_any _ _).mono ?_
      rintro e w1 ⟨rfl, hb1⟩
      rw [HS.out]
      go_wp2
      go_ret
      exact ⟨rfl, hb1⟩
    | true =>
      have hq := isSz_le q hs
      have HG := Lib.hid (good_nil q (by omega))
      have HS := Lib.hid hs
      clear h h0 hl hs
      go_enter Tryz.func87, Tryz.ntmps87
      go_wp2_with fail
      refine (fdSize_any _ _).mono ?_
      rintro e w1 ⟨rfl, hb1⟩
      rw [HS.out]
      go_wp2_with fail
      refine (HL.out _ hb1).mono ?_
      rintro e w2 ⟨rfl, rfl⟩
      go_wp2
      go_ret
      exact ⟨ret_bool (by rw [HG.out]; rfl), hb1⟩

theorem tabl_long {q : Int} {l : List Int} (h : ¬ (l.length : Int) = q) : tabl q l = false := by simp [tabl, h]
theorem tabl_is {q : Int} {l : List Int} (h : (l.length : Int) = q) : tabl q l = l.all (inF q) := by simp [tabl, h]
theorem Sl.form {w : World} {v : Value} {l : List Int} (h : Sl w v l) : ∃ a cap, v = .slice a l.length cap := by
  rcases h with ⟨rfl, a, cap, rfl⟩ | ⟨b, off, cap, rfl, _⟩
  · exact ⟨_, _, rfl⟩
  · exact ⟨_, _, rfl⟩
set_option maxHeartbeats 1000000 in
/-- spec.plTable. -/
theorem plTable_any (q : Int) (v : Value) (l : List Int) (w : World) (h : Sl w v l) (hl : l.length ≤ 1048576) :
    Calls Tryz.prog 100 #[.int .i64 q, v] w fun e w' => e = .returned (.bool (isSz q && tabl q l)) ∧ Below w.heap.size w w' := by
  have HL := Lib.hid (fun w' (hb : Below w.heap.size w w') => by have := l1All_any v l 0 (q - 1) w' (h.below hb (Nat.le_refl _)) hl; rw [all_inF] at this; exact this)
  obtain ⟨a, cap, rfl⟩ := h.form
  clear h
  cases hs : isSz q with
  | false =>
    generalize hn : l.length = n at *
    have HS := Lib.hid hs; clear hs hn
    go_enter Tryz.func100, Tryz.ntmps100
    go_wp2_with fail
    refine (fdSize_any _ _).mono ?_
    rintro e w1 ⟨rfl, hb1⟩
    rw [HS.out]
    go_wp2
    go_ret
    exact ⟨rfl, hb1⟩
  | true =>
    have hq := isSz_le q hs
    by_cases hlen : (l.length : Int) = q
    · have HG := Lib.hid (tabl_is hlen)
      have hne : ((l.length : Int) == q) = true := by simpa using hlen
      clear hlen
      generalize l.all (inF q) = d at *
      generalize hn : l.length = n at *
      have HS := Lib.hid hs; clear hs hn
      go_enter Tryz.func100, Tryz.ntmps100
      go_wp2_with fail
      refine (fdSize_any _ _).mono ?_
      rintro e w1 ⟨rfl, hb1⟩
      rw [HS.out]
      go_wp2_with fail
      refine (HL.out _ hb1).mono ?_
      rintro e w2 ⟨rfl, rfl⟩
      go_wp2
      go_ret
      exact ⟨ret_bool (by rw [HG.out]; rfl), hb1⟩
    · have HG := Lib.hid (tabl_long hlen)
      have hne : ((l.length : Int) == q) = false := by simpa using hlen
      clear hlen
      generalize hn : l.length = n at *
      have HS := Lib.hid hs; clear hs hn
      go_enter Tryz.func100, Tryz.ntmps100
      go_wp2_with fail
      refine (fdSize_any _ _).mono ?_
      rintro e w1 ⟨rfl, hb1⟩
      rw [HS.out]
      go_wp2
      go_ret
      exact ⟨ret_bool (by rw [HG.out]; rfl), hb1⟩
set_option maxHeartbeats 1000000 in
/-- impl.field.isTable. -/
theorem isTable_any (q : Int) (v : Value) (l : List Int) (w : World) (h : Sl w v l) (hl : l.length ≤ 1048576) :
    Calls Tryz.prog 91 #[fdE q, v] w fun e w' => e = .returned (.bool (tabl q l)) ∧ Below w.heap.size w w' := by
  have HL := Lib.hid (fun w' (hb : Below w.heap.size w w') => hasAll_any q v l w' (h.below hb (Nat.le_refl _)) hl)
  obtain ⟨a, cap, rfl⟩ := h.form
  clear h
  by_cases hlen : (l.length : Int) = q
  · have HG := Lib.hid (tabl_is hlen)
    have hne : ((l.length : Int) == q) = true := by simpa using hlen
    clear hlen
    generalize l.all (inF q) = d at *
    generalize hn : l.length = n at *
    clear hn
    go_enter Tryz.func91, Tryz.ntmps91
    go_wp2_with fail
    refine (HL.out _ (by (repeat' (first | (with_reducible assumption) | (with_reducible exact Below.refl _ _) | (with_reducible refine below_drewN ?_ _) | (with_reducible refine Below.drew ?_) | (with_reducible refine Below.alloc ?_ ?_ _) | (with_reducible refine Below.setCell ?_ ?_ _) | (with_reducible refine Below.trans ?_ (Below.mono (by assumption) ?_)) | (with_reducible exact Nat.le_refl _) | (with_reducible assumption) | omega | (simp; omega) | (simp; done))))).mono ?_
    rintro e w1 ⟨rfl, hb1⟩
    go_wp2
    go_ret
    exact ⟨ret_bool (by rw [HG.out]), by (repeat' (first | (with_reducible assumption) | (with_reducible exact Below.refl _ _) | (with_reducible refine below_drewN ?_ _) | (with_reducible refine Below.drew ?_) | (with_reducible refine Below.alloc ?_ ?_ _) | (with_reducible refine Below.setCell ?_ ?_ _) | (with_reducible refine Below.trans ?_ (Below.mono (by assumption) ?_)) | (with_reducible exact Nat.le_refl _) | (with_reducible assumption) | omega | (simp; omega) | (simp; done)))⟩
  · have HG := Lib.hid (tabl_long hlen)
    have hne : ((l.length : Int) == q) = false := by simpa using hlen
    clear hlen
    generalize hn : l.length = n at *
    clear hn
    go_enter Tryz.func91, Tryz.ntmps91
    go_wp2
    go_ret
    exact ⟨ret_bool (by rw [HG.out]), by (repeat' (first | (with_reducible assumption) | (with_reducible exact Below.refl _ _) | (with_reducible refine below_drewN ?_ _) | (with_reducible refine Below.drew ?_) | (with_reducible refine Below.alloc ?_ ?_ _) | (with_reducible refine Below.setCell ?_ ?_ _) | (with_reducible refine Below.trans ?_ (Below.mono (by assumption) ?_)) | (with_reducible exact Nat.le_refl _) | (with_reducible assumption) | omega | (simp; omega) | (simp; done)))⟩
set_option maxHeartbeats 1000000 in
/-- impl.field.isPoly. -/
theorem isPoly_any (q : Int) (v : Value) (l : List Int) (w : World) (h : Sl w v l) (hl : l.length ≤ 1048576) (hq : 0 ≤ q) :
    Calls Tryz.prog 96 #[fdE q, v] w fun e w' => e = .returned (.bool (good q l)) ∧ Below w.heap.size w w' := by
  have HL := Lib.hid (fun w' (hb : Below w.heap.size w w') => hasAll_any q v l w' (h.below hb (Nat.le_refl _)) hl)
  by_cases h0 : 0 < l.length
  · obtain ⟨b, off, cap, rfl, hb, hc⟩ := h.open rfl h0
    have hlast := hc (l.length - 1) (by omega)
    have hz : ((l.length : Int) - 1) = ((l.length - 1 : Nat) : Int) := by omega
    by_cases hlen : (l.length : Int) ≤ q
    · cases hall : l.all (inF q) with
      | false =>
        have HG := Lib.hid (good_out hall)
        have HL' := Lib.hid (fun w' hb => by have := HL.out w' hb; rw [hall] at this; exact this)
        clear h hc hlast HL hall
        generalize hn : l.length = n at *
        clear hn
        go_enter Tryz.func96, Tryz.ntmps96
        go_wp2_with fail
        refine (HL'.out _ (by (repeat' (first | (with_reducible assumption) | (with_reducible exact Below.refl _ _) | (with_reducible refine below_drewN ?_ _) | (with_reducible refine Below.drew ?_) | (with_reducible refine Below.alloc ?_ ?_ _) | (with_reducible refine Below.setCell ?_ ?_ _) | (with_reducible refine Below.trans ?_ (Below.mono (by assumption) ?_)) | (with_reducible exact Nat.le_refl _) | (with_reducible assumption) | omega | (simp; omega) | (simp; done))))).mono ?_
        rintro e w1 ⟨rfl, hb1⟩
        go_wp2
        go_ret
        exact ⟨ret_bool (by rw [HG.out]), by (repeat' (first | (with_reducible assumption) | (with_reducible exact Below.refl _ _) | (with_reducible refine below_drewN ?_ _) | (with_reducible refine Below.drew ?_) | (with_reducible refine Below.alloc ?_ ?_ _) | (with_reducible refine Below.setCell ?_ ?_ _) | (with_reducible refine Below.trans ?_ (Below.mono (by assumption) ?_)) | (with_reducible exact Nat.le_refl _) | (with_reducible assumption) | omega | (simp; omega) | (simp; done)))⟩
      | true =>
        obtain ⟨u0, u1⟩ := last_bd hall h0
        have HG := Lib.hid (good_last hlen hall h0)
        have HL' := Lib.hid (fun w' hb => by have := HL.out w' hb; rw [hall] at this; exact this)
        have HC : Hid (∀ w', Below w.heap.size w w' → w'.cell? ⟨b, off + (l.length - 1), none⟩ = some (.int .i64 (l.getD (l.length - 1) 0))) := Lib.hid (fun w' hbb => (hbb.cell (p := ⟨b, off + (l.length - 1), none⟩) hb).trans hlast)
        clear h hc hlast HL hall
        generalize l.getD (l.length - 1) 0 = u at *
        generalize hn : l.length = n at *
        clear hn
        have hne : ((n : Int) == 0) = false := by simp; omega
        have hi1 : (0 : Int) ≤ (n : Int) - 1 := by omega
        have HU : Hid ((u != 0) = decide (0 < u)) := Lib.hid (by
          by_cases hu : u = 0
          · subst hu; rfl
          · have h3 : 0 < u := by omega
            simp [hu, h3])
        go_enter Tryz.func96, Tryz.ntmps96
        go_wp2_with fail
        refine (HL'.out _ (by (repeat' (first | (with_reducible assumption) | (with_reducible exact Below.refl _ _) | (with_reducible refine below_drewN ?_ _) | (with_reducible refine Below.drew ?_) | (with_reducible refine Below.alloc ?_ ?_ _) | (with_reducible refine Below.setCell ?_ ?_ _) | (with_reducible refine Below.trans ?_ (Below.mono (by assumption) ?_)) | (with_reducible exact Nat.le_refl _) | (with_reducible assumption) | omega | (simp; omega) | (simp; done))))).mono ?_
        rintro e w1 ⟨rfl, hb1⟩
        have hcell := HC.out w1 (by (repeat' (first | (with_reducible assumption) | (with_reducible exact Below.refl _ _) | (with_reducible refine below_drewN ?_ _) | (with_reducible refine Below.drew ?_) | (with_reducible refine Below.alloc ?_ ?_ _) | (with_reducible refine Below.setCell ?_ ?_ _) | (with_reducible refine Below.trans ?_ (Below.mono (by assumption) ?_)) | (with_reducible exact Nat.le_refl _) | (with_reducible assumption) | omega | (simp; omega) | (simp; done))))
        go_wp2
        go_ret
        exact ⟨ret_bool (by rw [HG.out, ← HU.out]), by (repeat' (first | (with_reducible assumption) | (with_reducible exact Below.refl _ _) | (with_reducible refine below_drewN ?_ _) | (with_reducible refine Below.drew ?_) | (with_reducible refine Below.alloc ?_ ?_ _) | (with_reducible refine Below.setCell ?_ ?_ _) | (with_reducible refine Below.trans ?_ (Below.mono (by assumption) ?_)) | (with_reducible exact Nat.le_refl _) | (with_reducible assumption) | omega | (simp; omega) | (simp; done)))⟩
    · have HG := Lib.hid (good_long hlen)
      clear h hc hlast HL
      generalize hn : l.length = n at *
      clear hn
      go_enter Tryz.func96, Tryz.ntmps96
      go_wp2
      go_ret
      exact ⟨ret_bool (by rw [HG.out]), by (repeat' (first | (with_reducible assumption) | (with_reducible exact Below.refl _ _) | (with_reducible refine below_drewN ?_ _) | (with_reducible refine Below.drew ?_) | (with_reducible refine Below.alloc ?_ ?_ _) | (with_reducible refine Below.setCell ?_ ?_ _) | (with_reducible refine Below.trans ?_ (Below.mono (by assumption) ?_)) | (with_reducible exact Nat.le_refl _) | (with_reducible assumption) | omega | (simp; omega) | (simp; done)))⟩
  · obtain rfl : l = [] := List.length_eq_zero_iff.1 (by omega)
    obtain ⟨a, cap, rfl⟩ := h.empty
    have HG := Lib.hid (good_nil q hq)
    clear h h0 hl
    go_enter Tryz.func96, Tryz.ntmps96
    go_wp2_with fail
    refine (HL.out _ (by (repeat' (first | (with_reducible assumption) | (with_reducible exact Below.refl _ _) | (with_reducible refine below_drewN ?_ _) | (with_reducible refine Below.drew ?_) | (with_reducible refine Below.alloc ?_ ?_ _) | (with_reducible refine Below.setCell ?_ ?_ _) | (with_reducible refine Below.trans ?_ (Below.mono (by assumption) ?_)) | (with_reducible exact Nat.le_refl _) | (with_reducible assumption) | omega | (simp; omega) | (simp; done))))).mono ?_
    rintro e w1 ⟨rfl, hb1⟩
    go_wp2
    go_ret
    exact ⟨ret_bool (by rw [HG.out]), by (repeat' (first | (with_reducible assumption) | (with_reducible exact Below.refl _ _) | (with_reducible refine below_drewN ?_ _) | (with_reducible refine Below.drew ?_) | (with_reducible refine Below.alloc ?_ ?_ _) | (with_reducible refine Below.setCell ?_ ?_ _) | (with_reducible refine Below.trans ?_ (Below.mono (by assumption) ?_)) | (with_reducible exact Nat.le_refl _) | (with_reducible assumption) | omega | (simp; omega) | (simp; done)))⟩
/-- The numbers below n with a property. -/
def wh (P : Nat → Bool) (n : Nat) : List Int := ((List.range n).filter P).map fun a : Nat => (a : Int)
theorem wh_yes (P : Nat → Bool) (n : Nat) (h : P n = true) : wh P (n + 1) = wh P n ++ [(n : Int)] := by simp [wh, List.range_succ, List.filter_append, h]
theorem wh_no (P : Nat → Bool) (n : Nat) (h : P n = false) : wh P (n + 1) = wh P n := by simp [wh, List.range_succ, List.filter_append, h]
theorem wh_len (P : Nat → Bool) (n : Nat) : (wh P n).length ≤ n := by
  rw [wh, List.length_map]
  exact Nat.le_trans (List.length_filter_le _ _) (by simp)
/-- Insertion into an increasing list. -/
def cnt (l : List Int) (n : Int) : Nat := (l.takeWhile fun x => decide (x < n)).length
theorem cnt_le (l : List Int) (n : Int) : cnt l n ≤ l.length := (List.takeWhile_sublist _).length_le
theorem cnt_lt (l : List Int) (n : Int) (j : Nat) (h : j < cnt l n) : l.getD j 0 < n := by
  induction l generalizing j with
  | nil => simp [cnt] at h
  | cons x t ih =>
    by_cases hx : x < n
    · cases j with
      | zero => simpa using hx
      | succ j => simpa using ih j (by simp [cnt, hx] at h ⊢; omega)
    · simp [cnt, hx] at h
theorem cnt_at (l : List Int) (n : Int) (h : cnt l n < l.length) : ¬ l.getD (cnt l n) 0 < n := by
  induction l with
  | nil => simp at h
  | cons x t ih =>
    by_cases hx : x < n
    · have e : cnt (x :: t) n = cnt t n + 1 := by simp [cnt, hx]
      rw [e] at h ⊢
      simpa using ih (by simpa using h)
    · have e : cnt (x :: t) n = 0 := by simp [cnt, hx]
      rw [e]
      simpa using hx
def ins (l : List Int) (n : Int) : List Int := if cnt l n < l.length ∧ l.getD (cnt l n) 0 = n then l else l.take (cnt l n) ++ n :: l.drop (cnt l n)
theorem ins_len (l : List Int) (n : Int) : (ins l n).length ≤ l.length + 1 := by
  unfold ins
  have := cnt_le l n
  split
  · omega
  · simp; omega
/-- The squares of the first n elements, put in one after the other. -/
def sqTo (q : Int) : Nat → List Int
  | 0 => []
  | n + 1 => ins (sqTo q n) (mulF q (n : Int) (n : Int))
theorem sqTo_len (q : Int) (n : Nat) : (sqTo q n).length ≤ n := by
  induction n with
  | zero => exact Nat.le_refl _
  | succ n ih => have := ins_len (sqTo q n) (mulF q (n : Int) (n : Int)); simp only [sqTo]; omega
/-- a is a product of an element with itself. -/
def isSq (q a : Int) : Bool := (List.range q.toNat).any fun n => mulF q (n : Int) (n : Int) == a
set_option maxRecDepth 100000 in
theorem sq_model (q : Int) (h : isSz q = true) : sqTo q q.toNat = wh (fun a => isSq q (a : Int)) q.toNat :=
  of_decide_eq_true (of_chk0 (f := fun q => decide (sqTo q q.toNat = wh (fun a => isSq q (a : Int)) q.toNat)) (by decide +kernel) q h)

theorem Row.lit0 (w : World) : Row (w.alloc (.cells #[] 3)) w.heap.size (.slice (some ⟨w.heap.size, 0, none⟩) 0 0) [] := by
  have := World.ownsRow_lit (base := w.heap.size) (e := 3) (size := 1) w #[] 0 (Nat.le_refl _) (by unfold maxLen; omega) rfl
  exact this
theorem Row.cap {w : World} {B g n cap : Nat} {l : List Int} (h : Row w B (.slice (some ⟨g, 0, none⟩) n cap) l) : n ≤ cap := by
  rcases h.2 with ⟨h', _⟩ | ⟨g', cap', cur, h', _, hg, hc, _⟩
  · simp at h'
  · simp at h'
    obtain ⟨rfl, h2, rfl⟩ := h'
    omega
theorem take_get (l : List Int) (k j : Nat) (u : Value) (h : ((l.take k).map (Value.int .i64))[j]? = some u) : j < k ∧ j < l.length ∧ u = .int .i64 (l.getD j 0) := by
  rw [List.getElem?_map] at h
  obtain ⟨x, hx, rfl⟩ := Option.map_eq_some_iff.1 h
  have hj := (List.getElem?_eq_some_iff.1 hx).1
  rw [List.length_take] at hj
  refine ⟨by omega, by omega, ?_⟩
  rw [List.getElem?_take, if_pos (by omega)] at hx
  simp [List.getD, hx]
theorem drop_get (l : List Int) (k j : Nat) (u : Value) (h : ((l.drop k).map (Value.int .i64))[j]? = some u) : k + j < l.length ∧ u = .int .i64 (l.getD (k + j) 0) := by
  rw [List.getElem?_map] at h
  obtain ⟨x, hx, rfl⟩ := Option.map_eq_some_iff.1 h
  have hj := (List.getElem?_eq_some_iff.1 hx).1
  rw [List.length_drop] at hj
  refine ⟨by omega, ?_⟩
  rw [List.getElem?_drop] at hx
  simp [List.getD, hx]
theorem add_off (g o j : Nat) : (⟨g, o, none⟩ : Addr).add j = ⟨g, o + j, none⟩ := by by_cases h0 : j = 0 <;> simp [Addr.add, h0]
theorem Row.app {w : World} {B n m : Nat} {v' : Value} {l r : List Int} (hl : l.length = n) (hr : r.length = m) (h : w.ownsRow B 3 1 v' (n + m) (l.map (Value.int .i64) ++ r.map (Value.int .i64))) : Row w B v' (l ++ r) := by
  unfold Row
  rw [List.length_append, List.map_append, hl, hr]
  exact h
theorem ints_one (l : List Int) : ∀ u ∈ l.map (Value.int .i64), u.oneCell' = true := fun u hu => by
  obtain ⟨x, _, rfl⟩ := List.mem_map.1 hu
  rfl
theorem Row.of {w : World} {B n : Nat} {v : Value} {l : List Int} {xs : List Value} (h : w.ownsRow B 3 1 v n xs) (hn : n = l.length) (hx : xs = l.map (Value.int .i64)) : Row w B v l := by
  subst hn hx
  exact h
theorem take_news {w : World} {g n j : Nat} {l : List Int} (hn : l.length = n) (hc : ∀ i, i < n → w.cell? ⟨g, i, none⟩ = some (.int .i64 (l.getD i 0))) : ∀ i u, ((l.take j).map (Value.int .i64))[i]? = some u → w.cell? ((⟨g, 0, none⟩ : Addr).add i) = some u := by
  intro i u hiu
  obtain ⟨h1, h2, rfl⟩ := take_get _ _ _ _ hiu
  rw [add_off, Nat.zero_add]
  exact hc i (by omega)
theorem drop_news {w : World} {g n j : Nat} {l : List Int} (hn : l.length = n) (hc : ∀ i, i < n → w.cell? ⟨g, i, none⟩ = some (.int .i64 (l.getD i 0))) : ∀ i u, ((l.drop j).map (Value.int .i64))[i]? = some u → w.cell? ((⟨g, j, none⟩ : Addr).add i) = some u := by
  intro i u hiu
  obtain ⟨h1, rfl⟩ := drop_get _ _ _ _ hiu
  rw [add_off]
  exact hc _ (by omega)

set_option maxHeartbeats 1000000 in
/-- spec.l1Own. -/
theorem l1Own_any (b off cap : Nat) (l : List Int) (w : World) (hb : b < w.heap.size) (hc : ∀ i, i < l.length → w.cell? ⟨b, off + i, none⟩ = some (.int .i64 (l.getD i 0))) (hl : l.length ≤ 1000) :
    Calls Tryz.prog 187 #[.slice (some ⟨b, off, none⟩) l.length cap] w fun e w' => ∃ v, e = .returned v ∧ Row w' w.heap.size v l ∧ Below w.heap.size w w' := by
  obtain ⟨i0, hi, iz0, iz1, iz2⟩ := info_parts Tryz.infoI
  have H0 : Hid ((w.alloc (.cells #[] 3)).ownsRow w.heap.size 3 1 (.slice (some ⟨w.heap.size, 0, none⟩) 0 0) 0 []) := Lib.hid (Row.lit0 w)
  have HN : Hid (∀ j u, (l.map (Value.int .i64))[j]? = some u → (w.alloc (.cells #[] 3)).cell? ((⟨b, off, none⟩ : Addr).add j) = some u) := Lib.hid (by
    intro j u hj
    obtain ⟨h1, rfl⟩ := drop_get l 0 j u (by simpa using hj)
    rw [Nat.zero_add] at h1 ⊢
    rw [add_off, World.cell?_alloc_past _ _ _ hb]
    exact hc j h1)
  clear hc
  go_enter Tryz.func187, Tryz.ntmps187
  go_wp2_with (at_builtin; refine wpList_append_own _ rfl _ _ 24 rfl w.heap.size 3 i0 (.int .i64 0) 1 8 Tryz.underlying24 hi iz0 iz1 iz2 rfl (by decide) _ _ _ rfl H0.out ⟨b, off, none⟩ l.length cap (l.map (Value.int .i64)) rfl (by simp) HN.out (ints_one _) (by unfold maxLen; omega) (by omega) (by simp) ?_)
  intro v1 w1 hown hgrow _
  have HR1 := Lib.hid (Row.of (l := l) hown (by simp) (by simp))
  have HB1 : Hid (Below w.heap.size w w1) := Lib.hid (Below.grown (by (repeat' (first | (with_reducible assumption) | (with_reducible exact Below.refl _ _) | (with_reducible refine below_drewN ?_ _) | (with_reducible refine Below.drew ?_) | (with_reducible refine Below.alloc ?_ ?_ _) | (with_reducible refine Below.setCell ?_ ?_ _) | (with_reducible refine Below.trans ?_ (Below.mono (by assumption) ?_)) | (with_reducible exact Nat.le_refl _) | (with_reducible assumption) | omega | (simp; omega) | (simp; done)))) hgrow (by simp) (fun g hg => (H0.out.lt g hg).1))
  clear hown hgrow
  go_wp2
  go_ret
  exact ⟨_, rfl, HR1.out, HB1.out⟩
theorem sn_stop {f : Nat → Int} {k : Nat} (h : f k ≠ 0) : sn f (k + 1) = k + 1 := by simp [sn, h]
theorem sn_go {f : Nat → Int} {k : Nat} (h : f k = 0) : sn f (k + 1) = sn f k := by simp [sn, h]
set_option maxHeartbeats 1000000 in
/-- spec.plShort. -/
theorem plShort_any (g cap n B : Nat) (f : Nat → Int) (w : World) (h : Row w B (.slice (some ⟨g, 0, none⟩) n cap) (fl f n)) (hg : g < w.heap.size) (hn : n ≤ 1000) :
    Calls Tryz.prog 127 #[.slice (some ⟨g, 0, none⟩) n cap] w fun e w' => ∃ v, e = .returned v ∧ Row w' w.heap.size v (fl f (sn f n)) ∧ Below w.heap.size w w' := by
  have HC : Hid (∀ i, i < n → w.cell? ⟨g, i, none⟩ = some (.int .i64 (f i))) := Lib.hid fun i hi => by
    have := Row.cell (l := fl f n) (cap := cap) (by rw [fl_len]; exact h) i (by rw [fl_len]; exact hi)
    rwa [fl_get _ _ _ hi] at this
  have hcap : n ≤ cap := h.cap
  clear h
  go_enter Tryz.func127, Tryz.ntmps127
  go_wp2_with fail
  go_loop [3] (fun vk => ∃ k : Nat, k ≤ n ∧ vk = .int .i64 k ∧ sn f k = sn f n) (fun vk => (intOf vk).toNat)
  case atStart => exact ⟨n, Nat.le_refl _, rfl, rfl⟩
  case round =>
    obtain ⟨k, hk, rfl, hs⟩ := hrel
    have HS := Lib.hid hs; clear hs
    have hO : sn f n = k → Hid (∀ i, i < (fl f k).length → w.cell? ⟨g, 0 + i, none⟩ = some (.int .i64 ((fl f k).getD i 0))) := fun _ => Lib.hid fun i hi => by
      rw [fl_len] at hi
      rw [fl_get _ _ _ hi, Nat.zero_add]
      exact HC.out i (by omega)
    by_cases h0 : k = 0
    · subst h0
      have e : sn f n = 0 := HS.out.symm
      have HOO := hO e
      have HE := Lib.hid e
      clear hO e
      have ho := fun w' (hw : w' = w) => l1Own_any g 0 cap (fl f 0) w' (by rw [hw]; exact hg) (by rw [hw]; exact HOO.out) (by rw [fl_len]; omega)
      rw [fl_len] at ho
      have HO := Lib.hid (ho w rfl)
      clear ho
      go_wp2_with fail
      refine HO.out.mono ?_
      rintro e w1 ⟨v, rfl, hr, hb⟩
      have HR := Lib.hid hr; clear hr
      have HB := Lib.hid hb; clear hb
      go_wp2
      go_ret
      exact ⟨_, rfl, by rw [HE.out]; exact HR.out, HB.out⟩
    · obtain ⟨j, rfl⟩ : ∃ j, k = j + 1 := ⟨k - 1, by omega⟩
      have hc := HC.out j (by omega)
      have hz : (((j + 1 : Nat) : Int) - 1) = (j : Int) := by omega
      have hpos : (0 : Int) < ((j + 1 : Nat) : Int) := by omega
      have hjn : j < n := by omega
      by_cases hu : f j = 0
      · have HS2 : Hid (sn f j = sn f n) := Lib.hid (by rw [← HS.out, sn_go hu])
        rw [hu] at hc
        clear hO hu
        go_wp2
        go_round
        case rel => exact ⟨j, by omega, by go_num, HS2.out⟩
        case measure => (simp [intOf]; try omega)
      · have e : sn f n = j + 1 := by rw [← HS.out, sn_stop hu]
        have HOO := hO e
        have HE := Lib.hid e
        have hne : (f j == 0) = false := by simpa using hu
        clear hO e hu
        have ho := fun w' (hw : w' = w) => l1Own_any g 0 cap (fl f (j + 1)) w' (by rw [hw]; exact hg) (by rw [hw]; exact HOO.out) (by rw [fl_len]; omega)
        rw [fl_len] at ho
        have HO := Lib.hid (ho w rfl)
        clear ho
        generalize f j = u at *
        go_wp2_with fail
        refine HO.out.mono ?_
        rintro e w1 ⟨v, rfl, hr, hb⟩
        have HR := Lib.hid hr; clear hr
        have HB := Lib.hid hb; clear hb
        go_wp2
        go_ret
        exact ⟨_, rfl, by rw [HE.out]; exact HR.out, HB.out⟩
theorem redR_zero (q : Nat) (c : Nat → Int) : List.replicate q 0 = fl (redR q c 0) q := by
  refine List.ext_getElem (by simp [fl]) fun j h1 h2 => ?_
  simp [fl, redR]
set_option maxHeartbeats 2000000 in
/-- spec.plReduce. -/
theorem plReduce_any (m : Nat) (v : Value) (c : Nat → Int) (n : Nat) (w : World) (h : isSz (m : Int) = true) (hv : Sl w v (fl c n)) (hc : ∀ i, El (m : Int) (c i)) (hn : n ≤ 1000) :
    Calls Tryz.prog 111 #[.int .i64 m, v] w fun e w' => ∃ v', e = .returned v' ∧ Row w' w.heap.size v' (fl (redR m c n) (redn m c n)) ∧ Below w.heap.size w w' := by
  obtain ⟨i0, hi, iz0, iz1, iz2⟩ := info_parts Tryz.infoI
  have hq := isSz_le (m : Int) h
  have HP := Lib.hid (fun (i : Nat) w => fdPlus_any (m : Int) (redR m c i (idx m i)) (c i) w h (redR_el m c h hc i _).1 (redR_el m c h hc i _).2 (hc i).1 (hc i).2)
  have HCC : Hid (0 < n → ∃ b off cap, v = .slice (some ⟨b, off, none⟩) n cap ∧ b < w.heap.size ∧ ∀ i, i < n → w.cell? ⟨b, off + i, none⟩ = some (.int .i64 (c i))) := Lib.hid fun h0 => by
    obtain ⟨b, off, cap, rfl, hb, hcc⟩ := hv.open (fl_len _ _) h0
    exact ⟨b, off, cap, rfl, hb, fun i hi => by have := hcc i hi; rwa [fl_get _ _ _ hi] at this⟩
  have HF : Hid (∃ a cap, v = .slice a n cap) := Lib.hid (by obtain ⟨a, cap, e⟩ := hv.form; rw [fl_len] at e; exact ⟨a, cap, e⟩)
  clear hv
  have HSH := Lib.hid (fun g w' (hr : Row w' w.heap.size (.slice (some ⟨g, 0, none⟩) m m) (fl (redR m c n) m)) (hg : g < w'.heap.size) => plShort_any g m m w.heap.size (redR m c n) w' hr hg (by omega))
  have HID := Lib.hid (idx_step m)
  have HIS := Lib.hid (idx_small m)
  have HIL := Lib.hid (fun k => idx_lt m k (by omega))
  clear h hc
  by_cases h0 : 0 < n
  · obtain ⟨b, off, cap, rfl, hb, hcc⟩ := HCC.out h0
    have HCL := Lib.hid hcc
    clear hcc HCC HF
    go_enter Tryz.func111, Tryz.ntmps111
    go_wp2_with (at_make; refine wpList_make_full _ rfl _ _ 24 rfl w.heap.size 3 i0 (.int .i64 0) 1 Tryz.underlying24 hi iz0 iz1 .i64 .i64 _ _ m rfl rfl rfl rfl ?c3 ?c4 ?c5 ?_)
    case c3 => rw [iz2]; omega
    case c4 => unfold maxLen; omega
    case c5 => omega
    intro w1 hown hgrow
    have HR : Hid (Row w1 w.heap.size (.slice (some ⟨w.heap.size, 0, none⟩) m m) (fl (redR m c 0) m)) := Lib.hid (by
      have := Row.madeF (fun _ => 0) hown
      rw [← redR_zero m c, show List.replicate m (0 : Int) = fl (part0 (fun _ => 0) 0) m from part0_zero _ _]
      exact this)
    have HB := Lib.hid ((Below.refl w.heap.size w).grown hgrow (Nat.le_refl _) (fun k hk => by cases hk))
    have hgl : w.heap.size < w1.heap.size := (HR.out.lt w.heap.size rfl).2
    clear hown hgrow
    go_wp2_with fail
    go_loopw [12] (fun vi wr => ∃ i : Nat, i ≤ n ∧ vi = .int .i64 i ∧ Row wr w.heap.size (.slice (some ⟨w.heap.size, 0, none⟩) m m) (fl (redR m c i) m) ∧ w.heap.size < wr.heap.size ∧ Below w.heap.size w wr) (fun vi _ => n - (intOf vi).toNat)
    case atStart => exact ⟨0, Nat.zero_le _, rfl, HR.out, hgl, HB.out⟩
    case round =>
      obtain ⟨i, hin, rfl, hr, hgl', hbw⟩ := hrel
      have HRr := Lib.hid hr; clear hr
      by_cases hlt : i < n
      · have hcell := (hbw.cell (p := ⟨b, off + i, none⟩) hb).trans (HCL.out i hlt)
        have HBW := Lib.hid hbw; clear hbw
        have HP' := Lib.hid (HP.out i)
        generalize hci : c i = u at *
        have HCI := Lib.hid hci; clear hci
        go_wp2_with fail
        go_loopw [6] (fun vk ws => ∃ k : Nat, k ≤ i ∧ vk = .int .i64 k ∧ idx m k = idx m i ∧ ws = wr) (fun vk _ => (intOf vk).toNat)
        case atStart => exact ⟨i, Nat.le_refl _, rfl, rfl, rfl⟩
        case round =>
          obtain ⟨k, hki, rfl, hid, rfl⟩ := hrel
          have HIDD := Lib.hid hid; clear hid
          by_cases hbig : m ≤ k
          · have HSS : Hid (idx m (k - (m - 1)) = idx m i) := Lib.hid (by rw [HID.out k (by omega) hbig]; exact HIDD.out)
            have hb1 : (m : Int) ≤ (k : Int) := by omega
            go_wp2
            go_roundw
            case rel => exact ⟨k - (m - 1), by omega, by go_num, HSS.out, by first | rfl | trivial⟩
            case measure => (simp [intOf]; try omega)
          · have hk2 : k < m := by omega
            have hb1 : ¬ (m : Int) ≤ (k : Int) := by omega
            have e : k = idx m i := by rw [← HIDD.out, HIS.out k hk2]
            have e2 := Row.cell (l := fl (redR m c i) m) (cap := m) (by rw [fl_len]; exact HRr.out) k (by rw [fl_len]; exact hk2)
            rw [fl_get _ _ _ hk2] at e2
            have f2 := HRr.out.frozen (by rw [fl_len]) k
            have HST := Lib.hid (fun w' (hr : Row w' w.heap.size (.slice (some ⟨w.heap.size, 0, none⟩) m m) (fl (redR m c i) m)) x => hr.store (by rw [fl_len]) k x)
            have HPK : Hid (∀ w, Calls Tryz.prog 177 #[.int .i64 m, .int .i64 (redR m c i k), .int .i64 u] w fun e w' => e = .returned (.int .i64 (addF m (redR m c i k) u)) ∧ Below w.heap.size w w') := Lib.hid (by rw [e]; exact HP'.out)
            have HUP : Hid (redR m c (i + 1) = upd (redR m c i) k (addF m (redR m c i k) u)) := Lib.hid (by rw [e, ← HCI.out]; rfl)
            clear HP' e
            generalize redR m c i k = y at *
            go_wp2_with fail
            refine (HPK.out _).mono ?_
            rintro e w2 ⟨rfl, hb2⟩
            have hr2 := HRr.out.below hb2
            have e3 := Row.cell (l := fl (redR m c i) m) (cap := m) (by rw [fl_len]; exact hr2) k (by rw [fl_len]; exact hk2)
            have f3 := hr2.frozen (by rw [fl_len]) k
            have HR2 := Lib.hid (HST.out _ hr2 (addF m y u))
            have hz2 := hb2.size
            have HB2 := Lib.hid (HBW.out.trans (hb2.mono HBW.out.size))
            clear hr2 hb2 e2 f2
            generalize (fl (redR m c i) m).getD k 0 = y2 at *
            go_wp2
            go_roundw
            case rel =>
              refine ⟨i + 1, by omega, by go_num, ?_, by simp; omega, HB2.out.setCell (Nat.le_refl _) _⟩
              rw [HUP.out, ← fl_set]
              exact HR2.out
            case measure => (simp [intOf]; try omega)
      · obtain rfl : n = i := by omega
        have HBW := Lib.hid hbw; clear hbw
        go_wp2_with fail
        refine (HSH.out _ _ HRr.out hgl').mono ?_
        rintro e w2 ⟨v2, rfl, hr2, hb2⟩
        have HR2 := Lib.hid hr2; clear hr2
        have HB2 := Lib.hid hb2; clear hb2
        go_wp2
        go_ret
        exact ⟨_, rfl, HR2.out.mono HBW.out.size, HBW.out.trans (HB2.out.mono HBW.out.size)⟩
  · obtain rfl : n = 0 := by omega
    obtain ⟨a, cap, rfl⟩ := HF.out
    clear HF HCC h0
    go_enter Tryz.func111, Tryz.ntmps111
    go_wp2_with (at_make; refine wpList_make_full _ rfl _ _ 24 rfl w.heap.size 3 i0 (.int .i64 0) 1 Tryz.underlying24 hi iz0 iz1 .i64 .i64 _ _ m rfl rfl rfl rfl ?c3 ?c4 ?c5 ?_)
    case c3 => rw [iz2]; omega
    case c4 => unfold maxLen; omega
    case c5 => omega
    intro w1 hown hgrow
    have HR : Hid (Row w1 w.heap.size (.slice (some ⟨w.heap.size, 0, none⟩) m m) (fl (redR m c 0) m)) := Lib.hid (by
      have := Row.madeF (fun _ => 0) hown
      rw [← redR_zero m c, show List.replicate m (0 : Int) = fl (part0 (fun _ => 0) 0) m from part0_zero _ _]
      exact this)
    have HB := Lib.hid ((Below.refl w.heap.size w).grown hgrow (Nat.le_refl _) (fun k hk => by cases hk))
    have hgl : w.heap.size < w1.heap.size := (HR.out.lt w.heap.size rfl).2
    clear hown hgrow
    go_wp2_with fail
    refine wp_loop_rounds 1 ?_
    rw [rounds_succ]
    go_wp2_with fail
    refine (HSH.out _ _ HR.out hgl).mono ?_
    rintro e w2 ⟨v2, rfl, hr2, hb2⟩
    have HR2 := Lib.hid hr2; clear hr2
    have HB2 := Lib.hid hb2; clear hb2
    go_wp2
    go_ret
    exact ⟨_, rfl, HR2.out.mono HB.out.size, HB.out.trans (HB2.out.mono HB.out.size)⟩
theorem Sl.parts {w : World} {v : Value} {f : Nat → Int} {n : Nat} (h : Sl w v (fl f n)) : ∃ a cap, v = .slice a n cap ∧ (0 < n → ∃ b off, a = some ⟨b, off, none⟩ ∧ b < w.heap.size ∧ ∀ i, i < n → w.cell? ⟨b, off + i, none⟩ = some (.int .i64 (f i))) := by
  by_cases h0 : 0 < n
  · obtain ⟨b, off, cap, rfl, hb, hc⟩ := h.open (fl_len _ _) h0
    exact ⟨_, _, rfl, fun _ => ⟨b, off, rfl, hb, fun i hi => by have := hc i hi; rwa [fl_get _ _ _ hi] at this⟩⟩
  · obtain rfl : n = 0 := by omega
    obtain ⟨a, cap, rfl⟩ := Sl.empty (show Sl w v [] from h)
    exact ⟨_, _, rfl, fun h => by omega⟩
theorem cou_zero (q : Int) (f g : Nat → Int) (k N : Nat) : List.replicate N 0 = fl (cou q f g k 0) N := by
  refine List.ext_getElem (by simp [fl]) fun j h1 h2 => ?_
  simp [fl, cou]
set_option maxRecDepth 100000 in
set_option maxHeartbeats 4000000 in
/-- spec.plTimes. -/
theorem plTimes_any (m n k : Nat) (v1 v2 : Value) (f g : Nat → Int) (w : World) (h : isSz (m : Int) = true) (hv1 : Sl w v1 (fl f n)) (hv2 : Sl w v2 (fl g k)) (hf : ∀ i, El (m : Int) (f i)) (hg : ∀ i, El (m : Int) (g i)) (hn : n ≤ 100) (hk : k ≤ 100) :
    Calls Tryz.prog 124 #[.int .i64 m, v1, v2] w fun e w' => ∃ v', e = .returned v' ∧ Row w' w.heap.size v' (fl (redR m (cou m f g k n) (n + k)) (redn m (cou m f g k n) (n + k))) ∧ Below w.heap.size w w' := by
  obtain ⟨i0, hi, iz0, iz1, iz2⟩ := info_parts Tryz.infoI
  have hq := isSz_le (m : Int) h
  have HT := Lib.hid (fun (i j : Nat) w => fdTimes_any (m : Int) (f i) (g j) w h (hf i).1 (hf i).2 (hg j).1 (hg j).2)
  have HCE : Hid (∀ i j x, El (m : Int) (cin m f g i (cou m f g k i) j x)) := Lib.hid fun i j x => cin_el h hf hg (cou_el h hf hg k i) i j x
  have HA := Lib.hid (fun (i j : Nat) w => fdPlus_any (m : Int) (cin m f g i (cou m f g k i) j (i + j)) (mulF m (f i) (g j)) w h (HCE.out i j _).1 (HCE.out i j _).2 ((hf i).mul h (hg j)).1 ((hf i).mul h (hg j)).2)
  have HRD := Lib.hid (fun v' w' (hs : Sl w' v' (fl (cou m f g k n) (n + k))) => plReduce_any m v' (cou m f g k n) (n + k) w' h hs (cou_el h hf hg k n) (by omega))
  obtain ⟨a1, cap1, rfl, p1⟩ := hv1.parts
  obtain ⟨a2, cap2, rfl, p2⟩ := hv2.parts
  have HP1 := Lib.hid p1
  have HP2 := Lib.hid p2
  clear p1 p2 hv1 hv2 hf hg h HCE
  generalize hN : n + k = N at *
  have hN' : (n : Int) + (k : Int) = (N : Int) := by omega
  go_enter Tryz.func124, Tryz.ntmps124
  go_wp2_with (at_make; refine wpList_make_full _ rfl _ _ 24 rfl w.heap.size 3 i0 (.int .i64 0) 1 Tryz.underlying24 hi iz0 iz1 .i64 .i64 _ _ N rfl rfl rfl rfl ?c3 ?c4 ?c5 ?_)
  case c3 => rw [iz2]; omega
  case c4 => unfold maxLen; omega
  case c5 => omega
  intro w1 hown hgrow
  have HR : Hid (Row w1 w.heap.size (.slice (some ⟨w.heap.size, 0, none⟩) N N) (fl (cou m f g k 0) N)) := Lib.hid (by
    have := Row.madeF (fun _ => 0) hown
    rw [← cou_zero m f g k, show List.replicate N (0 : Int) = fl (part0 (fun _ => 0) 0) N from part0_zero _ _]
    exact this)
  have HB := Lib.hid ((Below.refl w.heap.size w).grown hgrow (Nat.le_refl _) (fun k hk => by cases hk))
  have hgl : w.heap.size < w1.heap.size := (HR.out.lt w.heap.size rfl).2
  clear hown hgrow
  go_wp2_with fail
  go_loopw [20] (fun vi wr => ∃ i : Nat, i ≤ n ∧ vi = .int .i64 i ∧ Row wr w.heap.size (.slice (some ⟨w.heap.size, 0, none⟩) N N) (fl (cou m f g k i) N) ∧ w.heap.size < wr.heap.size ∧ Below w.heap.size w wr) (fun vi _ => n - (intOf vi).toNat)
  case atStart => exact ⟨0, Nat.zero_le _, rfl, HR.out, hgl, HB.out⟩
  case round =>
    obtain ⟨i, hin, rfl, hr, hgl', hbw⟩ := hrel
    have HRr := Lib.hid hr; clear hr
    by_cases hlt : i < n
    · obtain ⟨b1, off1, rfl, hb1, hc1⟩ := HP1.out (by omega)
      have hcell := (hbw.cell (p := ⟨b1, off1 + i, none⟩) hb1).trans (hc1 i hlt)
      have HBW := Lib.hid hbw; clear hbw hc1
      have HT' := Lib.hid (HT.out i)
      have HA' := Lib.hid (HA.out i)
      have HST : Hid (∀ j, cin m f g i (cou m f g k i) (j + 1) = upd (cin m f g i (cou m f g k i) j) (i + j) (addF m (cin m f g i (cou m f g k i) j (i + j)) (mulF m (f i) (g j)))) := Lib.hid fun _ => rfl
      have HEND : Hid (cin m f g i (cou m f g k i) k = cou m f g k (i + 1)) := Lib.hid rfl
      have HSTART : Hid (cou m f g k i = cin m f g i (cou m f g k i) 0) := Lib.hid rfl
      rw [HSTART.out] at HRr
      clear HSTART
      generalize hC : cin m f g i (cou m f g k i) = C at *
      generalize f i = u at *
      go_wp2_with fail
      go_loopw [27] (fun vj ws => ∃ j : Nat, j ≤ k ∧ vj = .int .i64 j ∧ Row ws w.heap.size (.slice (some ⟨w.heap.size, 0, none⟩) N N) (fl (C j) N) ∧ w.heap.size < ws.heap.size ∧ Below w.heap.size w ws) (fun vj _ => k - (intOf vj).toNat)
      case atStart => exact ⟨0, Nat.zero_le _, rfl, HRr.out, hgl', HBW.out⟩
      case round =>
        obtain ⟨j, hjk, rfl, hr, hgl2, hbw⟩ := hrel
        have HRs := Lib.hid hr; clear hr
        by_cases hjlt : j < k
        · obtain ⟨b2, off2, rfl, hb2, hc2⟩ := HP2.out (by omega)
          have hcell2 := (hbw.cell (p := ⟨b2, off2 + j, none⟩) hb2).trans (hc2 j hjlt)
          have HBS := Lib.hid hbw; clear hbw hc2
          have hT2 := Lib.hid (HT'.out j)
          have hA2 := Lib.hid (HA'.out j)
          have HUP := Lib.hid (HST.out j)
          have hz : (i : Int) + (j : Int) = ((i + j : Nat) : Int) := by omega
          have hij : i + j < N := by omega
          have e2 := Row.cell (l := fl (C j) N) (cap := N) (by rw [fl_len]; exact HRs.out) (i + j) (by rw [fl_len]; exact hij)
          rw [fl_get _ _ _ hij] at e2
          have f2 := HRs.out.frozen (by rw [fl_len]) (i + j)
          have HSTO := Lib.hid (fun w' (hr : Row w' w.heap.size (.slice (some ⟨w.heap.size, 0, none⟩) N N) (fl (C j) N)) x => hr.store (by rw [fl_len]) (i + j) x)
          have hsb : i + j ≤ 200 := by omega
          generalize hs : i + j = s at *
          have HSS := Lib.hid hs; clear hs
          have hij' : (s : Int) < (N : Int) := by omega
          have hwr : IntKind.i64.wrap (s : Int) = (s : Int) := by rw [IntKind.wrap_i64]; omega
          have hij2 : ¬ (N : Int) ≤ (s : Int) := by omega
          generalize C j s = y at *
          generalize g j = x at *
          generalize mulF m u x = z at *
          go_wp2_with fail
          go_region_with (first | (go_at_call 178; refine (hT2.out _).mono ?_; rintro e w2 ⟨rfl, hb2⟩; obtain ⟨hc2, hf2⟩ := bcell hb2; (try simp only [World.size_drew] at hc2 hf2); have hz2 := hb2.size; (try simp at hz2); have HB2 := Lib.hid hb2; clear hb2; have l2 : w.heap.size < w2.heap.size := (by omega)) | (go_at_call 177; refine (hA2.out _).mono ?_; rintro e w3 ⟨rfl, hb3⟩; obtain ⟨hc3, hf3⟩ := bcell hb3; (try simp only [World.size_drew] at hc3 hf3); have hz3 := hb3.size; (try simp at hz3); have HB3 := Lib.hid hb3; clear hb3; have l3 : w.heap.size < w3.heap.size := (by omega)))
          all_goals
            go_wp2
            go_roundw
            case rel =>
              have hb2 := HB2.out
              have hb3 := HB3.out
              have hbs := HBS.out
              refine ⟨j + 1, by omega, by go_num, ?_, by simp; omega, by (repeat' (first | (with_reducible assumption) | (with_reducible exact Below.refl _ _) | (with_reducible refine below_drewN ?_ _) | (with_reducible refine Below.drew ?_) | (with_reducible refine Below.alloc ?_ ?_ _) | (with_reducible refine Below.setCell ?_ ?_ _) | (with_reducible refine Below.trans ?_ (Below.mono (by assumption) ?_)) | (with_reducible exact Nat.le_refl _) | (with_reducible assumption) | omega | (simp; omega) | (simp; done)))⟩
              rw [HUP.out, ← fl_set]
              exact HSTO.out _ (HRs.out.below (w' := w3) (by (repeat' (first | (with_reducible assumption) | (with_reducible exact Below.refl _ _) | (with_reducible refine below_drewN ?_ _) | (with_reducible refine Below.drew ?_) | (with_reducible refine Below.alloc ?_ ?_ _) | (with_reducible refine Below.setCell ?_ ?_ _) | (with_reducible refine Below.trans ?_ (Below.mono (by assumption) ?_)) | (with_reducible exact Nat.le_refl _) | (with_reducible assumption) | omega | (simp; omega) | (simp; done))))) _
            case measure => (simp [intOf]; try omega)
        · obtain rfl : k = j := by omega
          rw [HEND.out] at HRs
          have HBS := Lib.hid hbw; clear hbw
          go_wp2
          go_roundw
          case rel => exact ⟨i + 1, by omega, by go_num, HRs.out, hgl2, HBS.out⟩
          case measure => (simp [intOf]; try omega)
    · obtain rfl : n = i := by omega
      have HBW := Lib.hid hbw; clear hbw
      go_wp2_with fail
      refine (HRD.out _ _ HRr.out.sl).mono ?_
      rintro e w2 ⟨v2, rfl, hr2, hb2⟩
      have HR2 := Lib.hid hr2; clear hr2
      have HB2 := Lib.hid hb2; clear hb2
      go_wp2
      go_ret
      exact ⟨_, rfl, HR2.out.mono HBW.out.size, HBW.out.trans (HB2.out.mono HBW.out.size)⟩
theorem l1Most_any (n k : Nat) (w : World) : Calls Tryz.prog 105 #[.int .i64 n, .int .i64 k] w fun e w' => e = .returned (.int .i64 ((max n k : Nat) : Int)) ∧ w' = w := by
  by_cases h : k < n
  · have h1 : (k : Int) < (n : Int) := by omega
    rw [Nat.max_eq_left (by omega)]
    go_enter Tryz.func105, Tryz.ntmps105
    go_wp2
    go_ret
    exact ⟨rfl, rfl⟩
  · have h1 : ¬ (k : Int) < (n : Int) := by omega
    rw [Nat.max_eq_right (by omega)]
    go_enter Tryz.func105, Tryz.ntmps105
    go_wp2
    go_ret
    exact ⟨rfl, rfl⟩
theorem Row.whole {w : World} {B g N : Nat} {l : List Int} (h : Row w B (.slice (some ⟨g, 0, none⟩) N N) l) (hl : l.length = N) : w.heap[g]? = some (.cells ((l.map (Value.int .i64)).toArray) 3 (0, 0)) := by
  rcases h.2 with ⟨h', _⟩ | ⟨g', cap', cur, h', _, hh, _, _, hs, hx⟩
  · simp at h'
  · simp at h'
    obtain ⟨rfl, h2, rfl⟩ := h'
    rw [hl, List.take_of_length_le (by rw [Array.length_toList, hs]; exact Nat.le_refl _)] at hx
    rw [← hx]
    exact hh
theorem Row.heap {w : World} {B g N : Nat} {l : List Int} (h : w.heap[g]? = some (.cells ((l.map (Value.int .i64)).toArray) 3 (0, 0))) (hB : B ≤ g) (hl : l.length = N) (hN : N ≤ maxLen) : Row w B (.slice (some ⟨g, 0, none⟩) N N) l := by
  subst hl
  refine ⟨by simp, .inr ⟨g, l.length, _, rfl, hB, h, Nat.le_refl _, hN, by simp, ?_⟩⟩
  rw [List.take_of_length_le (by simp)]
theorem fl_pad {f : Nat → Int} {n N : Nat} (h : n ≤ N) (hz : ∀ i, n ≤ i → f i = 0) (u : Int → Value) : splice ((List.replicate N (0 : Int)).map u) 0 ((fl f n).map u) = (fl f N).map u := by
  unfold splice
  refine List.ext_getElem (by simp [fl]; omega) fun j h1 h2 => ?_
  simp [fl]
  by_cases hj : j < n
  · rw [List.getElem_append_left (by simpa using hj)]
    simp
  · rw [List.getElem_append_right (by simp; omega)]
    simp
    rw [hz j (by omega)]
set_option maxHeartbeats 2000000 in
/-- spec.plPlus. -/
theorem plPlus_any (m n k : Nat) (v1 v2 : Value) (f g : Nat → Int) (w : World) (h : isSz (m : Int) = true) (hv1 : Sl w v1 (fl f n)) (hv2 : Sl w v2 (fl g k)) (hf : ∀ i, El (m : Int) (f i)) (hg : ∀ i, El (m : Int) (g i)) (zf : ∀ i, n ≤ i → f i = 0) (zg : ∀ i, k ≤ i → g i = 0) (hn : n ≤ 100) (hk : k ≤ 100) :
    Calls Tryz.prog 122 #[.int .i64 m, v1, v2] w fun e w' => ∃ v', e = .returned v' ∧ Row w' w.heap.size v' (fl (pls m f g) (sn (pls m f g) (max n k))) ∧ Below w.heap.size w w' := by
  obtain ⟨i0, hi, iz0, iz1, iz2⟩ := info_parts Tryz.infoI
  have HM := Lib.hid (l1Most_any n k)
  have HPI : Hid (∀ i j, El (m : Int) (plI m f g i j)) := Lib.hid fun i j => by
    unfold plI
    split
    · exact (hf j).add h (hg j)
    · exact hf j
  have HA := Lib.hid (fun (i : Nat) w => fdPlus_any (m : Int) (plI m f g i i) (g i) w h (HPI.out i i).1 (HPI.out i i).2 (hg i).1 (hg i).2)
  have HALL := Lib.hid (plI_all h hf k zg)
  have HSTEP := Lib.hid (plI_step (m : Int) f g)
  have HPAD := Lib.hid (fl_pad (f := f) (n := n) (N := max n k) (Nat.le_max_left _ _) zf (Value.int .i64))
  have HP0 : Hid (plI m f g 0 = f) := Lib.hid (by funext j; simp [plI])
  have hNn : n ≤ max n k := Nat.le_max_left _ _
  have hNk : k ≤ max n k := Nat.le_max_right _ _
  have hN1 : max n k ≤ 100 := by omega
  obtain ⟨a1, cap1, rfl, p1⟩ := hv1.parts
  obtain ⟨a2, cap2, rfl, p2⟩ := hv2.parts
  have HP1 := Lib.hid p1
  have HP2 := Lib.hid p2
  clear p1 p2 hv1 hv2 hf hg h HPI zf zg
  generalize max n k = N at *
  have HSH := Lib.hid (fun gg w' (hr : Row w' w.heap.size (.slice (some ⟨gg, 0, none⟩) N N) (fl (pls m f g) N)) (hg : gg < w'.heap.size) => plShort_any gg N N w.heap.size (pls m f g) w' hr hg (by omega))
  obtain ⟨X, hX⟩ : ∃ X, X = (fl f n).map (Value.int .i64) := ⟨_, rfl⟩
  have HXL : X.length = n := by rw [hX, List.length_map, fl_len]
  have HX1 : Hid (∀ u ∈ X, u.oneCell' = true) := Lib.hid (by rw [hX]; exact ints_one _)
  have HSRC : Hid (0 < n → ∃ ad, a1 = some ad ∧ ∀ w', Below w.heap.size w w' → ∀ (j : Nat) (v : Value), X[j]? = some v → w'.cell? (ad.add j) = some v) := Lib.hid fun h0 => by
    obtain ⟨b, off, e, hb, hc⟩ := HP1.out h0
    refine ⟨_, e, fun w' hbw j v hj => ?_⟩
    rw [hX, List.getElem?_map] at hj
    obtain ⟨x, hx, rfl⟩ := Option.map_eq_some_iff.1 hj
    have hjn : j < n := by have := (List.getElem?_eq_some_iff.1 hx).1; rwa [fl_len] at this
    have hx2 := fl_get f n j hjn
    rw [add_off, hbw.cell (p := ⟨b, off + j, none⟩) hb, hc j hjn, ← hx2]
    simp [List.getD, hx]
  have HXE := Lib.hid hX; clear hX HP1
  go_enter Tryz.func122, Tryz.ntmps122
  go_wp2_with fail
  refine (HM.out _).mono ?_
  rintro e w0 ⟨rfl, rfl⟩
  go_wp2_with (at_make; refine wpList_make_full _ rfl _ _ 24 rfl w0.heap.size 3 i0 (.int .i64 0) 1 Tryz.underlying24 hi iz0 iz1 .i64 .i64 _ _ N rfl rfl rfl rfl ?c3 ?c4 ?c5 ?_)
  case c3 => rw [iz2]; omega
  case c4 => unfold maxLen; omega
  case c5 => omega
  intro w1 hown hgrow
  have HR : Hid (Row w1 w0.heap.size (.slice (some ⟨w0.heap.size, 0, none⟩) N N) (List.replicate N 0)) := Lib.hid (by
    have := Row.madeF (fun _ => 0) hown
    rw [show List.replicate N (0 : Int) = fl (part0 (fun _ => 0) 0) N from part0_zero _ _]
    exact this)
  have HB := Lib.hid ((Below.refl w0.heap.size w0).grown hgrow (Nat.le_refl _) (fun k hk => by cases hk))
  have HW := Lib.hid (HR.out.whole (by simp))
  have hXm : X.length = Nat.min n N := by rw [HXL]; exact (Nat.min_eq_left hNn).symm
  have hsz : (Tryz.prog.info? 3).map (fun i => i.size) = some 1 := by rw [hi]; simp [iz1]
  clear hown hgrow
  go_wp2_with (with_reducible refine wpList_copy_splice rfl _ _ 24 24 rfl 3 Tryz.underlying24 hsz _ _ _ _ _ _ rfl rfl w0.heap.size 0 _ 3 HW.out X hXm ?d2 ?d3 HX1.out w0.heap.size w0 HB.out (Nat.le_refl _) ?_)
  case d2 => exact fun h0 => by obtain ⟨ad, e, hc⟩ := HSRC.out h0; exact ⟨ad, e, hc _ HB.out⟩
  case d3 => rw [List.length_map, List.length_replicate, HXL]; omega
  intro w2 HG2 hb2
  have HR2 : Hid (Row w2 w0.heap.size (.slice (some ⟨w0.heap.size, 0, none⟩) N N) (fl (plI m f g 0) N)) := Lib.hid (by
    rw [HP0.out]
    have hh := HG2.out
    have hp := HPAD.out
    rw [List.map_replicate] at hp
    rw [HXE.out, hp] at hh
    exact Row.heap hh (Nat.le_refl _) (fl_len _ _) (by unfold maxLen; omega))
  have HB2 := Lib.hid hb2
  have hgl : w0.heap.size < w2.heap.size := (HR2.out.lt w0.heap.size rfl).2
  clear hb2 HG2 HR HW HXE HXL HX1 hXm
  go_wp2_with fail
  go_loopw [21] (fun vi wr => ∃ i : Nat, i ≤ k ∧ vi = .int .i64 i ∧ Row wr w0.heap.size (.slice (some ⟨w0.heap.size, 0, none⟩) N N) (fl (plI m f g i) N) ∧ w0.heap.size < wr.heap.size ∧ Below w0.heap.size w0 wr) (fun vi _ => k - (intOf vi).toNat)
  case atStart => exact ⟨0, Nat.zero_le _, rfl, HR2.out, hgl, HB2.out⟩
  case round =>
    obtain ⟨i, hin, rfl, hr, hgl', hbw⟩ := hrel
    have HRr := Lib.hid hr; clear hr
    by_cases hlt : i < k
    · obtain ⟨b2, off2, rfl, hb2, hc2⟩ := HP2.out (by omega)
      have hcell := (hbw.cell (p := ⟨b2, off2 + i, none⟩) hb2).trans (hc2 i hlt)
      have HBW := Lib.hid hbw; clear hbw hc2
      have HA' := Lib.hid (HA.out i)
      have hiN : i < N := by omega
      have HUP := Lib.hid (HSTEP.out i)
      have e2 := Row.cell (l := fl (plI m f g i) N) (cap := N) (by rw [fl_len]; exact HRr.out) i (by rw [fl_len]; exact hiN)
      rw [fl_get _ _ _ hiN] at e2
      have f2 := HRr.out.frozen (by rw [fl_len]) i
      have HST := Lib.hid (fun w' (hr : Row w' w0.heap.size (.slice (some ⟨w0.heap.size, 0, none⟩) N N) (fl (plI m f g i) N)) x => hr.store (by rw [fl_len]) i x)
      have HCC := Lib.hid (fun w' (hr : Row w' w0.heap.size (.slice (some ⟨w0.heap.size, 0, none⟩) N N) (fl (plI m f g i) N)) => Row.cell (l := fl (plI m f g i) N) (cap := N) (by rw [fl_len]; exact hr) i (by rw [fl_len]; exact hiN))
      generalize plI m f g i i = y at *
      generalize g i = u at *
      go_wp2_with fail
      refine (HA'.out _).mono ?_
      rintro e w3 ⟨rfl, hb3⟩
      have hr3 := HRr.out.below hb3
      have e3 := HCC.out _ hr3
      have f3 := hr3.frozen (by rw [fl_len]) i
      have HR3 := Lib.hid (HST.out _ hr3 (addF m y u))
      have hz3 := hb3.size
      have HB3 := Lib.hid (HBW.out.trans (hb3.mono HBW.out.size))
      clear hr3 hb3 e2 f2
      generalize (fl (plI m f g i) N).getD i 0 = y2 at *
      go_wp2
      go_roundw
      case rel =>
        refine ⟨i + 1, by omega, by go_num, ?_, by simp; omega, HB3.out.setCell (Nat.le_refl _) _⟩
        rw [HUP.out, ← fl_set]
        exact HR3.out
      case measure => (simp [intOf]; try omega)
    · obtain rfl : k = i := by omega
      have HBW := Lib.hid hbw; clear hbw
      rw [HALL.out] at HRr
      go_wp2_with fail
      refine (HSH.out _ _ HRr.out hgl').mono ?_
      rintro e w3 ⟨v3, rfl, hr3, hb3⟩
      have HR3 := Lib.hid hr3; clear hr3
      have HB3 := Lib.hid hb3; clear hb3
      go_wp2
      go_ret
      exact ⟨_, rfl, HR3.out.mono HBW.out.size, HBW.out.trans (HB3.out.mono HBW.out.size)⟩
end Go.Proofs.YtljijnanmpajaaaGreat
