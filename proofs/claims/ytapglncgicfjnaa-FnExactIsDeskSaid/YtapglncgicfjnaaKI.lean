/- A bundle of texts: HD HE FC FG HP HX HY. -/
import Derived.Laws.AppendOwnNone
import Derived.Laws.CopyOwn
import Derived.Test.YtapglncgicfjnaaKC
import Derived.Test.YtapglncgicfjnaaKE
import Derived.Test.YtapglncgicfjnaaKG
import Derived.Test.YtapglncgicfjnaaKA
namespace Go.Proofs.Ytapglncgicfjnaa
open Go.RowKit
/-- x is an element's number. -/
def inF (q x : Int) : Bool := decide (0 ≤ x) && decide (x < q)
/-- The list is a polynomial. -/
def good (q : Int) (l : List Int) : Bool := decide ((l.length : Int) ≤ q) && (l.all (inF q) && (decide (l.length = 0) || decide (0 < l.getD (l.length - 1) 0)))
/-- The list is a table. -/
def tabl (q : Int) (l : List Int) : Bool := decide ((l.length : Int) = q) && l.all (inF q)
theorem all_take_succ (P : Int → Bool) (l : List Int) (i : Nat) (h : i < l.length) : (l.take (i + 1)).all P = ((l.take i).all P && P (l.getD i 0)) := by
  rw [take_succ_getD l i h, List.all_append]
  simp [List.getD]
theorem all_false_of (P : Int → Bool) (l : List Int) (i : Nat) (h : i < l.length) (hp : P (l.getD i 0) = false) : l.all P = false := by
  rw [List.all_eq_false]
  refine ⟨l.getD i 0, ?_, by rw [hp]; simp⟩
  rw [show l.getD i 0 = l[i] by simp [List.getD, h]]
  exact List.getElem_mem h

set_option maxHeartbeats 1000000 in
/-- spec.l1All. -/
theorem l1All_any (v : Value) (l : List Int) (lo hi : Int) (w : World) (h : Sl w v l) (hl : l.length ≤ 1048576) :
    Calls Try.prog 117 #[v, .int .i64 lo, .int .i64 hi] w fun e w' => e = .returned (.bool (l.all fun x => decide (lo ≤ x) && decide (x ≤ hi))) ∧ w = w' := by
  by_cases h0 : 0 < l.length
  · obtain ⟨b, off, cap, rfl, hb, hc⟩ := h.open rfl h0
    have HC := Lib.hid hc; clear hc h
    have HT := Lib.hid (all_take_succ (fun x => decide (lo ≤ x) && decide (x ≤ hi)) l)
    have HF := Lib.hid (all_false_of (fun x => decide (lo ≤ x) && decide (x ≤ hi)) l)
    have HE : Hid (l.take l.length = l) := Lib.hid (List.take_of_length_le (Nat.le_refl _))
    generalize hn : l.length = n at *
    have HN := Lib.hid hn; clear hn
    go_enter Try.func117, Try.ntmps117
    go_wp2_with fail
    go_loop [11] (fun vi => ∃ i : Nat, i ≤ n ∧ vi = .int .i64 i ∧ (l.take i).all (fun x => decide (lo ≤ x) && decide (x ≤ hi)) = true) (fun vi => n - (intOf vi).toNat)
    case atStart => exact ⟨0, Nat.zero_le _, rfl, by simp⟩
    case round =>
      obtain ⟨i, hi', rfl, hall⟩ := hrel
      have HA := Lib.hid hall; clear hall
      by_cases hlt : i < n
      · have hc := HC.out i hlt
        have HT' := Lib.hid (HT.out i hlt)
        have HF' := Lib.hid (HF.out i hlt)
        clear HT HF
        generalize l.getD i 0 = u at *
        cases hp : decide (lo ≤ u) && decide (u ≤ hi) with
        | true =>
          have HP := Lib.hid hp; clear hp
          go_wp2_with fail
          refine (l1In_any _ _ _ _).mono ?_
          rintro e w1 ⟨rfl, rfl⟩
          rw [HP.out]
          go_wp2
          go_round
          case rel => exact ⟨i + 1, by omega, by go_num, by rw [HT'.out, HA.out, HP.out]; rfl⟩
          case measure => simp [intOf]; omega
        | false =>
          have HP := Lib.hid hp; clear hp
          go_wp2_with fail
          refine (l1In_any _ _ _ _).mono ?_
          rintro e w1 ⟨rfl, rfl⟩
          rw [HP.out]
          go_wp2
          go_ret
          exact ⟨ret_bool (HF'.out HP.out).symm, rfl⟩
      · obtain rfl : n = i := by omega
        go_wp2
        go_ret
        exact ⟨ret_bool (by have := HA.out; rw [HE.out] at this; exact this.symm), rfl⟩
  · obtain rfl : l = [] := List.length_eq_zero_iff.1 (by omega)
    obtain ⟨a, cap, rfl⟩ := h.empty
    clear h h0 hl
    go_enter Try.func117, Try.ntmps117
    go_wp2_with fail
    (refine wp_loop_rounds 1 ?_; repeat any_goals (rw [rounds_succ]; go_wp2))
    go_wp2
    go_ret
    exact ⟨rfl, rfl⟩
theorem all_inF (q : Int) (l : List Int) : (l.all fun x => decide (0 ≤ x) && decide (x ≤ q - 1)) = l.all (inF q) := by
  congr 1
  funext x
  unfold inF
  congr 1
  exact decide_eq_decide.2 (by omega)

/-- impl.field.has. -/
theorem fhas_any (q a : Int) (w : World) :
    Calls Try.prog 133 #[fdE q, .int .i64 a] w fun e w' => e = .returned (.bool (inF q a)) ∧ Below w.heap.size w w' := by
  by_cases h0 : 0 ≤ a
  · by_cases h1 : a < q
    · have e : inF q a = true := by simp [inF, h0, h1]
      rw [e]
      exact has_yes q a w h0 h1
    · have e : inF q a = false := by simp [inF, h1]
      rw [e]
      exact has_high q a w h0 (by omega)
  · have e : inF q a = false := by simp [inF, h0]
    rw [e]
    exact has_low q a w (by omega)

set_option maxHeartbeats 1000000 in
/-- impl.field.hasAll. -/
theorem hasAll_any (q : Int) (v : Value) (l : List Int) (w : World) (h : Sl w v l) (hl : l.length ≤ 1048576) :
    Calls Try.prog 142 #[fdE q, v] w fun e w' => e = .returned (.bool (l.all (inF q))) ∧ Below w.heap.size w w' := by
  by_cases h0 : 0 < l.length
  · obtain ⟨b, off, cap, rfl, hb, hc⟩ := h.open rfl h0
    have HC := Lib.hid hc; clear hc h
    have HT := Lib.hid (all_take_succ (inF q) l)
    have HF := Lib.hid (all_false_of (inF q) l)
    have HE : Hid (l.take l.length = l) := Lib.hid (List.take_of_length_le (Nat.le_refl _))
    have HX := Lib.hid (fun a w => fhas_any q a w)
    generalize hn : l.length = n at *
    have HN := Lib.hid hn; clear hn
    go_enter Try.func142, Try.ntmps142
    go_wp2_with fail
    go_loopw [9] (fun vi wr => ∃ i : Nat, i ≤ n ∧ vi = .int .i64 i ∧ (l.take i).all (inF q) = true ∧ wr.heap[w.heap.size]? = some (.cells #[.int .i64 q, .int .i64 (pr q), .int .i64 (pl q)] 63) ∧ Below w.heap.size w wr) (fun vi _ => n - (intOf vi).toNat)
    case atStart => exact ⟨0, Nat.zero_le _, rfl, by simp, heap_alloc_new _ _, by (repeat' (first | (with_reducible assumption) | (with_reducible exact Below.refl _ _) | (with_reducible refine below_drewN ?_ _) | (with_reducible refine Below.drew ?_) | (with_reducible refine Below.alloc ?_ ?_ _) | (with_reducible refine Below.setCell ?_ ?_ _) | (with_reducible refine Below.trans ?_ (Below.mono (by assumption) ?_)) | (with_reducible exact Nat.le_refl _) | (with_reducible assumption) | omega | (simp; omega) | (simp; done)))⟩
    case round =>
      obtain ⟨i, hi', rfl, hall, hf, hbw⟩ := hrel
      have HA := Lib.hid hall; clear hall
      have f0 : wr.cell? ⟨w.heap.size, 0, none⟩ = some (.int .i64 q) := by rw [cell_of_row wr _ _ _ _ (0, 0) hf]; rfl
      have f1 : wr.cell? ⟨w.heap.size, 1, none⟩ = some (.int .i64 (pr q)) := by rw [cell_of_row wr _ _ _ _ (0, 0) hf]; rfl
      have f2 : wr.cell? ⟨w.heap.size, 2, none⟩ = some (.int .i64 (pl q)) := by rw [cell_of_row wr _ _ _ _ (0, 0) hf]; rfl
      have hfl : w.heap.size < wr.heap.size := (Array.getElem?_eq_some_iff.1 hf).1
      by_cases hlt : i < n
      · have hc := (hbw.cell (p := ⟨b, off + i, none⟩) hb).trans (HC.out i hlt)
        have HT' := Lib.hid (HT.out i hlt)
        have HF' := Lib.hid (HF.out i hlt)
        have HFF := Lib.hid hf; clear hf
        have HBW := Lib.hid hbw; clear hbw
        clear HT HF
        generalize l.getD i 0 = u at *
        cases hp : inF q u with
        | true =>
          have hx := HX.out u
          rw [hp] at hx
          have HX' := Lib.hid hx; clear hx
          have HP := Lib.hid hp; clear hp
          go_wp2_with fail
          refine (HX'.out _).mono ?_
          rintro e w1 ⟨rfl, hb1⟩
          have HB1 := Lib.hid hb1; clear hb1
          go_wp2
          go_roundw
          case rel => exact ⟨i + 1, by omega, by go_num, by rw [HT'.out, HA.out, HP.out]; rfl, (HB1.out.block _ hfl).trans HFF.out, HBW.out.trans (HB1.out.mono (by omega))⟩
          case measure => simp [intOf]; omega
        | false =>
          have hx := HX.out u
          rw [hp] at hx
          have HX' := Lib.hid hx; clear hx
          have HP := Lib.hid hp; clear hp
          go_wp2_with fail
          refine (HX'.out _).mono ?_
          rintro e w1 ⟨rfl, hb1⟩
          have HB1 := Lib.hid hb1; clear hb1
          go_wp2
          go_ret
          exact ⟨ret_bool (HF'.out HP.out).symm, HBW.out.trans (HB1.out.mono (by omega))⟩
      · obtain rfl : n = i := by omega
        have HBW := Lib.hid hbw; clear hbw
        go_wp2
        go_ret
        exact ⟨ret_bool (by have := HA.out; rw [HE.out] at this; exact this.symm), HBW.out⟩
  · obtain rfl : l = [] := List.length_eq_zero_iff.1 (by omega)
    obtain ⟨a, cap, rfl⟩ := h.empty
    clear h h0 hl
    go_enter Try.func142, Try.ntmps142
    go_wp2_with fail
    (refine wp_loop_rounds 1 ?_; repeat any_goals (rw [rounds_succ]; go_wp2))
    go_wp2
    go_ret
    exact ⟨rfl, by (repeat' (first | (with_reducible assumption) | (with_reducible exact Below.refl _ _) | (with_reducible refine below_drewN ?_ _) | (with_reducible refine Below.drew ?_) | (with_reducible refine Below.alloc ?_ ?_ _) | (with_reducible refine Below.setCell ?_ ?_ _) | (with_reducible refine Below.trans ?_ (Below.mono (by assumption) ?_)) | (with_reducible exact Nat.le_refl _) | (with_reducible assumption) | omega | (simp; omega) | (simp; done)))⟩
theorem good_long {q : Int} {l : List Int} (h : ¬ (l.length : Int) ≤ q) : good q l = false := by simp [good, h]
theorem good_out {q : Int} {l : List Int} (h : l.all (inF q) = false) : good q l = false := by simp [good, h]
theorem good_nil (q : Int) (h : 0 ≤ q) : good q [] = true := by simp [good, h]
theorem good_last {q : Int} {l : List Int} (h : (l.length : Int) ≤ q) (ha : l.all (inF q) = true) (h0 : 0 < l.length) : good q l = decide (0 < l.getD (l.length - 1) 0) := by
  have : ¬ l.length = 0 := by omega
  simp [good, h, ha, this]
theorem last_bd {q : Int} {l : List Int} (ha : l.all (inF q) = true) (h0 : 0 < l.length) : 0 ≤ l.getD (l.length - 1) 0 ∧ l.getD (l.length - 1) 0 < q := by
  have h := List.all_eq_true.1 ha (l.getD (l.length - 1) 0) (by
    have h1 : l.length - 1 < l.length := by omega
    rw [show l.getD (l.length - 1) 0 = l[l.length - 1] by simp [List.getD, h1]]
    exact List.getElem_mem _)
  simpa [inF] using h

set_option maxHeartbeats 1000000 in
/-- spec.plGood. -/
theorem plGood_any (q : Int) (v : Value) (l : List Int) (w : World) (h : Sl w v l) (hl : l.length ≤ 1048576) :
    Calls Try.prog 113 #[.int .i64 q, v] w fun e w' => e = .returned (.bool (isSz q && good q l)) ∧ Below w.heap.size w w' := by
  have HL := Lib.hid (fun w' (hb : Below w.heap.size w w') => by have := l1All_any v l 0 (q - 1) w' (h.below hb (Nat.le_refl _)) hl; rw [all_inF] at this; exact this)
  by_cases h0 : 0 < l.length
  · obtain ⟨b, off, cap, rfl, hb, hc⟩ := h.open rfl h0
    have hlast := hc (l.length - 1) (by omega)
    cases hs : isSz q with
    | false =>
      clear h hc hlast
      generalize hn : l.length = n at *
      have HS := Lib.hid hs; clear hs hn
      go_enter Try.func113, Try.ntmps113
      go_wp2_with fail
      refine (fdSize_any _ _).mono ?_
      rintro e w1 ⟨rfl, hb1⟩
      rw [HS.out]
      go_wp2
      go_ret
      exact ⟨rfl, hb1⟩
    | true =>
      have hq := isSz_le q hs
      have hz : ((l.length : Int) - 1) = ((l.length - 1 : Nat) : Int) := by omega
      by_cases hlen : (l.length : Int) ≤ q
      · cases hall : l.all (inF q) with
        | false =>
          have HG := Lib.hid (good_out hall)
          have HL' := Lib.hid (fun w' hb => by have := HL.out w' hb; rw [hall] at this; exact this)
          clear h hc hlast HL hall
          generalize hn : l.length = n at *
          have HS := Lib.hid hs; clear hs hn
          go_enter Try.func113, Try.ntmps113
          go_wp2_with fail
          refine (fdSize_any _ _).mono ?_
          rintro e w1 ⟨rfl, hb1⟩
          rw [HS.out]
          go_wp2_with fail
          refine (HL'.out _ hb1).mono ?_
          rintro e w2 ⟨rfl, rfl⟩
          go_wp2
          go_ret
          exact ⟨ret_bool (by rw [HG.out]; rfl), hb1⟩
        | true =>
          obtain ⟨u0, u1⟩ := last_bd hall h0
          have HG := Lib.hid (good_last hlen hall h0)
          have HL' := Lib.hid (fun w' hb => by have := HL.out w' hb; rw [hall] at this; exact this)
          have HC : Hid (∀ w', Below w.heap.size w w' → w'.cell? ⟨b, off + (l.length - 1), none⟩ = some (.int .i64 (l.getD (l.length - 1) 0))) := Lib.hid (fun w' hbb => (hbb.cell (p := ⟨b, off + (l.length - 1), none⟩) hb).trans hlast)
          clear h hc hlast HL hall
          generalize l.getD (l.length - 1) 0 = u at *
          generalize hn : l.length = n at *
          have HS := Lib.hid hs; clear hs hn
          have hne : ((n : Int) == 0) = false := by simp; omega
          have hi1 : (0 : Int) ≤ (n : Int) - 1 := by omega
          go_enter Try.func113, Try.ntmps113
          go_wp2_with fail
          refine (fdSize_any _ _).mono ?_
          rintro e w1 ⟨rfl, hb1⟩
          rw [HS.out]
          have hcell := HC.out w1 hb1
          go_wp2_with fail
          refine (HL'.out _ hb1).mono ?_
          rintro e w2 ⟨rfl, rfl⟩
          go_wp2
          go_ret
          exact ⟨ret_bool (by rw [HG.out]; rfl), hb1⟩
      · have HG := Lib.hid (good_long hlen)
        clear h hc hlast HL
        generalize hn : l.length = n at *
        have HS := Lib.hid hs; clear hs hn
        go_enter Try.func113, Try.ntmps113
        go_wp2_with fail
        refine (fdSize_any _ _).mono ?_
        rintro e w1 ⟨rfl, hb1⟩
        rw [HS.out]
        go_wp2
        go_ret
        exact ⟨ret_bool (by rw [HG.out]), hb1⟩
  · obtain rfl : l = [] := List.length_eq_zero_iff.1 (by omega)
    obtain ⟨a, cap, rfl⟩ := h.empty
    cases hs : isSz q with
    | false =>
      have HS := Lib.hid hs
      clear h h0 hl hs
      go_enter Try.func113, Try.ntmps113
      go_wp2_with fail
      refine (fdSize_any _ _).mono ?_
      rintro e w1 ⟨rfl, hb1⟩
      rw [HS.out]
      go_wp2
      go_ret
      exact ⟨rfl, hb1⟩
    | true =>
      have hq := isSz_le q hs
      have HG := Lib.hid (good_nil q (by omega))
      have HS := Lib.hid hs
      clear h h0 hl hs
      go_enter Try.func113, Try.ntmps113
      go_wp2_with fail
      refine (fdSize_any _ _).mono ?_
      rintro e w1 ⟨rfl, hb1⟩
      rw [HS.out]
      go_wp2_with fail
      refine (HL.out _ hb1).mono ?_
      rintro e w2 ⟨rfl, rfl⟩
      go_wp2
      go_ret
      exact ⟨ret_bool (by rw [HG.out]; rfl), hb1⟩

theorem tabl_long {q : Int} {l : List Int} (h : ¬ (l.length : Int) = q) : tabl q l = false := by simp [tabl, h]
theorem tabl_is {q : Int} {l : List Int} (h : (l.length : Int) = q) : tabl q l = l.all (inF q) := by simp [tabl, h]
theorem Sl.form {w : World} {v : Value} {l : List Int} (h : Sl w v l) : ∃ a cap, v = .slice a l.length cap := by
  rcases h with ⟨rfl, a, cap, rfl⟩ | ⟨b, off, cap, rfl, _⟩
  · exact ⟨_, _, rfl⟩
  · exact ⟨_, _, rfl⟩
set_option maxHeartbeats 1000000 in
/-- impl.field.isPoly. -/
theorem isPoly_any (q : Int) (v : Value) (l : List Int) (w : World) (h : Sl w v l) (hl : l.length ≤ 1048576) (hq : 0 ≤ q) :
    Calls Try.prog 114 #[fdE q, v] w fun e w' => e = .returned (.bool (good q l)) ∧ Below w.heap.size w w' := by
  have HL := Lib.hid (fun w' (hb : Below w.heap.size w w') => hasAll_any q v l w' (h.below hb (Nat.le_refl _)) hl)
  by_cases h0 : 0 < l.length
  · obtain ⟨b, off, cap, rfl, hb, hc⟩ := h.open rfl h0
    have hlast := hc (l.length - 1) (by omega)
    have hz : ((l.length : Int) - 1) = ((l.length - 1 : Nat) : Int) := by omega
    by_cases hlen : (l.length : Int) ≤ q
    · cases hall : l.all (inF q) with
      | false =>
        have HG := Lib.hid (good_out hall)
        have HL' := Lib.hid (fun w' hb => by have := HL.out w' hb; rw [hall] at this; exact this)
        clear h hc hlast HL hall
        generalize hn : l.length = n at *
        clear hn
        go_enter Try.func114, Try.ntmps114
        go_wp2_with fail
        refine (HL'.out _ (by (repeat' (first | (with_reducible assumption) | (with_reducible exact Below.refl _ _) | (with_reducible refine below_drewN ?_ _) | (with_reducible refine Below.drew ?_) | (with_reducible refine Below.alloc ?_ ?_ _) | (with_reducible refine Below.setCell ?_ ?_ _) | (with_reducible refine Below.trans ?_ (Below.mono (by assumption) ?_)) | (with_reducible exact Nat.le_refl _) | (with_reducible assumption) | omega | (simp; omega) | (simp; done))))).mono ?_
        rintro e w1 ⟨rfl, hb1⟩
        go_wp2
        go_ret
        exact ⟨ret_bool (by rw [HG.out]), by (repeat' (first | (with_reducible assumption) | (with_reducible exact Below.refl _ _) | (with_reducible refine below_drewN ?_ _) | (with_reducible refine Below.drew ?_) | (with_reducible refine Below.alloc ?_ ?_ _) | (with_reducible refine Below.setCell ?_ ?_ _) | (with_reducible refine Below.trans ?_ (Below.mono (by assumption) ?_)) | (with_reducible exact Nat.le_refl _) | (with_reducible assumption) | omega | (simp; omega) | (simp; done)))⟩
      | true =>
        obtain ⟨u0, u1⟩ := last_bd hall h0
        have HG := Lib.hid (good_last hlen hall h0)
        have HL' := Lib.hid (fun w' hb => by have := HL.out w' hb; rw [hall] at this; exact this)
        have HC : Hid (∀ w', Below w.heap.size w w' → w'.cell? ⟨b, off + (l.length - 1), none⟩ = some (.int .i64 (l.getD (l.length - 1) 0))) := Lib.hid (fun w' hbb => (hbb.cell (p := ⟨b, off + (l.length - 1), none⟩) hb).trans hlast)
        clear h hc hlast HL hall
        generalize l.getD (l.length - 1) 0 = u at *
        generalize hn : l.length = n at *
        clear hn
        have hne : ((n : Int) == 0) = false := by simp; omega
        have hi1 : (0 : Int) ≤ (n : Int) - 1 := by omega
        have HU : Hid ((u != 0) = decide (0 < u)) := Lib.hid (by
          by_cases hu : u = 0
          · subst hu; rfl
          · have h3 : 0 < u := by omega
            simp [hu, h3])
        go_enter Try.func114, Try.ntmps114
        go_wp2_with fail
        refine (HL'.out _ (by (repeat' (first | (with_reducible assumption) | (with_reducible exact Below.refl _ _) | (with_reducible refine below_drewN ?_ _) | (with_reducible refine Below.drew ?_) | (with_reducible refine Below.alloc ?_ ?_ _) | (with_reducible refine Below.setCell ?_ ?_ _) | (with_reducible refine Below.trans ?_ (Below.mono (by assumption) ?_)) | (with_reducible exact Nat.le_refl _) | (with_reducible assumption) | omega | (simp; omega) | (simp; done))))).mono ?_
        rintro e w1 ⟨rfl, hb1⟩
        have hcell := HC.out w1 (by (repeat' (first | (with_reducible assumption) | (with_reducible exact Below.refl _ _) | (with_reducible refine below_drewN ?_ _) | (with_reducible refine Below.drew ?_) | (with_reducible refine Below.alloc ?_ ?_ _) | (with_reducible refine Below.setCell ?_ ?_ _) | (with_reducible refine Below.trans ?_ (Below.mono (by assumption) ?_)) | (with_reducible exact Nat.le_refl _) | (with_reducible assumption) | omega | (simp; omega) | (simp; done))))
        go_wp2
        go_ret
        exact ⟨ret_bool (by rw [HG.out, ← HU.out]), by (repeat' (first | (with_reducible assumption) | (with_reducible exact Below.refl _ _) | (with_reducible refine below_drewN ?_ _) | (with_reducible refine Below.drew ?_) | (with_reducible refine Below.alloc ?_ ?_ _) | (with_reducible refine Below.setCell ?_ ?_ _) | (with_reducible refine Below.trans ?_ (Below.mono (by assumption) ?_)) | (with_reducible exact Nat.le_refl _) | (with_reducible assumption) | omega | (simp; omega) | (simp; done)))⟩
    · have HG := Lib.hid (good_long hlen)
      clear h hc hlast HL
      generalize hn : l.length = n at *
      clear hn
      go_enter Try.func114, Try.ntmps114
      go_wp2
      go_ret
      exact ⟨ret_bool (by rw [HG.out]), by (repeat' (first | (with_reducible assumption) | (with_reducible exact Below.refl _ _) | (with_reducible refine below_drewN ?_ _) | (with_reducible refine Below.drew ?_) | (with_reducible refine Below.alloc ?_ ?_ _) | (with_reducible refine Below.setCell ?_ ?_ _) | (with_reducible refine Below.trans ?_ (Below.mono (by assumption) ?_)) | (with_reducible exact Nat.le_refl _) | (with_reducible assumption) | omega | (simp; omega) | (simp; done)))⟩
  · obtain rfl : l = [] := List.length_eq_zero_iff.1 (by omega)
    obtain ⟨a, cap, rfl⟩ := h.empty
    have HG := Lib.hid (good_nil q hq)
    clear h h0 hl
    go_enter Try.func114, Try.ntmps114
    go_wp2_with fail
    refine (HL.out _ (by (repeat' (first | (with_reducible assumption) | (with_reducible exact Below.refl _ _) | (with_reducible refine below_drewN ?_ _) | (with_reducible refine Below.drew ?_) | (with_reducible refine Below.alloc ?_ ?_ _) | (with_reducible refine Below.setCell ?_ ?_ _) | (with_reducible refine Below.trans ?_ (Below.mono (by assumption) ?_)) | (with_reducible exact Nat.le_refl _) | (with_reducible assumption) | omega | (simp; omega) | (simp; done))))).mono ?_
    rintro e w1 ⟨rfl, hb1⟩
    go_wp2
    go_ret
    exact ⟨ret_bool (by rw [HG.out]), by (repeat' (first | (with_reducible assumption) | (with_reducible exact Below.refl _ _) | (with_reducible refine below_drewN ?_ _) | (with_reducible refine Below.drew ?_) | (with_reducible refine Below.alloc ?_ ?_ _) | (with_reducible refine Below.setCell ?_ ?_ _) | (with_reducible refine Below.trans ?_ (Below.mono (by assumption) ?_)) | (with_reducible exact Nat.le_refl _) | (with_reducible assumption) | omega | (simp; omega) | (simp; done)))⟩
/-- The numbers below n with a property. -/
def wh (P : Nat → Bool) (n : Nat) : List Int := ((List.range n).filter P).map fun a : Nat => (a : Int)
theorem wh_yes (P : Nat → Bool) (n : Nat) (h : P n = true) : wh P (n + 1) = wh P n ++ [(n : Int)] := by simp [wh, List.range_succ, List.filter_append, h]
theorem wh_no (P : Nat → Bool) (n : Nat) (h : P n = false) : wh P (n + 1) = wh P n := by simp [wh, List.range_succ, List.filter_append, h]
theorem wh_len (P : Nat → Bool) (n : Nat) : (wh P n).length ≤ n := by
  rw [wh, List.length_map]
  exact Nat.le_trans (List.length_filter_le _ _) (by simp)
/-- Insertion into an increasing list. -/
def cnt (l : List Int) (n : Int) : Nat := (l.takeWhile fun x => decide (x < n)).length
theorem cnt_le (l : List Int) (n : Int) : cnt l n ≤ l.length := (List.takeWhile_sublist _).length_le
theorem cnt_lt (l : List Int) (n : Int) (j : Nat) (h : j < cnt l n) : l.getD j 0 < n := by
  induction l generalizing j with
  | nil => simp [cnt] at h
  | cons x t ih =>
    by_cases hx : x < n
    · cases j with
      | zero => simpa using hx
      | succ j => simpa using ih j (by simp [cnt, hx] at h ⊢; omega)
    · simp [cnt, hx] at h
theorem cnt_at (l : List Int) (n : Int) (h : cnt l n < l.length) : ¬ l.getD (cnt l n) 0 < n := by
  induction l with
  | nil => simp at h
  | cons x t ih =>
    by_cases hx : x < n
    · have e : cnt (x :: t) n = cnt t n + 1 := by simp [cnt, hx]
      rw [e] at h ⊢
      simpa using ih (by simpa using h)
    · have e : cnt (x :: t) n = 0 := by simp [cnt, hx]
      rw [e]
      simpa using hx
def ins (l : List Int) (n : Int) : List Int := if cnt l n < l.length ∧ l.getD (cnt l n) 0 = n then l else l.take (cnt l n) ++ n :: l.drop (cnt l n)
theorem ins_len (l : List Int) (n : Int) : (ins l n).length ≤ l.length + 1 := by
  unfold ins
  have := cnt_le l n
  split
  · omega
  · simp; omega
/-- The squares of the first n elements, put in one after the other. -/
def sqTo (q : Int) : Nat → List Int
  | 0 => []
  | n + 1 => ins (sqTo q n) (mulF q (n : Int) (n : Int))
theorem sqTo_len (q : Int) (n : Nat) : (sqTo q n).length ≤ n := by
  induction n with
  | zero => exact Nat.le_refl _
  | succ n ih => have := ins_len (sqTo q n) (mulF q (n : Int) (n : Int)); simp only [sqTo]; omega
/-- a is a product of an element with itself. -/
def isSq (q a : Int) : Bool := (List.range q.toNat).any fun n => mulF q (n : Int) (n : Int) == a
set_option maxRecDepth 100000 in
theorem sq_model (q : Int) (h : isSz q = true) : sqTo q q.toNat = wh (fun a => isSq q (a : Int)) q.toNat :=
  of_decide_eq_true (of_chk0 (f := fun q => decide (sqTo q q.toNat = wh (fun a => isSq q (a : Int)) q.toNat)) (by decide +kernel) q h)

/-- spec.AllPrimitive. -/
theorem spec_AllPrimitive_yes (q : Int) (w : World) (h : isSz q = true) :
    Calls Try.prog 35 #[.int .i64 q] w fun e w' => ∃ v, e = .returned (.tuple #[v, .bool true]) ∧ Row w' w.heap.size v (primTo q q.toNat) ∧ Below w.heap.size w w' := by
  have HC := Lib.hid (fun w => fdPrimitive_any q w h)
  go_enter Try.func35, Try.ntmps35
  go_wp2_with fail
  refine (fdSize_any _ _).mono ?_
  rintro e w1 ⟨rfl, hb1⟩
  have hz_hb1 := hb1.size; (try simp at hz_hb1)
  go_wp2_with fail
  refine (HC.out _).mono ?_
  rintro e w2 ⟨v, rfl, hr, hb2⟩
  have hz_hb2 := hb2.size; (try simp at hz_hb2)
  have HR := Lib.hid hr; clear hr
  go_wp2
  go_ret2
  exact ⟨_, rfl, HR.out.mono hz_hb1, by (repeat' (first | (with_reducible assumption) | (with_reducible exact Below.refl _ _) | (with_reducible refine below_drewN ?_ _) | (with_reducible refine Below.drew ?_) | (with_reducible refine Below.alloc ?_ ?_ _) | (with_reducible refine Below.setCell ?_ ?_ _) | (with_reducible refine Below.trans ?_ (Below.mono (by assumption) ?_)) | (with_reducible exact Nat.le_refl _) | (with_reducible assumption) | omega | (simp; omega) | (simp; done)))⟩
theorem spec_AllPrimitive_no (q : Int) (w : World) (h : isSz q = false) :
    Calls Try.prog 35 #[.int .i64 q] w fun e w' => e = .returned (.tuple #[.slice none 0 0, .bool false]) ∧ Below w.heap.size w w' := by
  go_enter Try.func35, Try.ntmps35
  go_wp2_with fail
  refine (fdSize_any _ _).mono ?_
  rintro e w1 ⟨rfl, hb1⟩
  have hz_hb1 := hb1.size; (try simp at hz_hb1)
  go_wp2_with fail
  go_ret2
  exact ⟨rfl, by (repeat' (first | (with_reducible assumption) | (with_reducible exact Below.refl _ _) | (with_reducible refine below_drewN ?_ _) | (with_reducible refine Below.drew ?_) | (with_reducible refine Below.alloc ?_ ?_ _) | (with_reducible refine Below.setCell ?_ ?_ _) | (with_reducible refine Below.trans ?_ (Below.mono (by assumption) ?_)) | (with_reducible exact Nat.le_refl _) | (with_reducible assumption) | omega | (simp; omega) | (simp; done)))⟩
theorem Row.lit0 (w : World) : Row (w.alloc (.cells #[] 3)) w.heap.size (.slice (some ⟨w.heap.size, 0, none⟩) 0 0) [] := by
  have := World.ownsRow_lit (base := w.heap.size) (e := 3) (size := 1) w #[] 0 (Nat.le_refl _) (by unfold maxLen; omega) rfl
  exact this
set_option maxHeartbeats 1000000 in
theorem l1Put_nil (x : Int) (w : World) :
    Calls Try.prog 97 #[.slice none 0 0, .int .i64 x] w fun e w' => ∃ v, e = .returned v ∧ Row w' w.heap.size v (ins [] x) ∧ Below w.heap.size w w' := by
  obtain ⟨i0, hi, iz0, iz1, iz2⟩ := info_parts Try.infoI
  go_enter Try.func97, Try.ntmps97
  go_wp2_with fail
  refine wp_loop_rounds 1 ?_
  rw [rounds_succ]
  have H0 := Lib.hid (Row.lit0 w)
  go_wp2_with (first | (at_builtin; refine wpList_append_own_none rfl _ _ 22 rfl w.heap.size 3 i0 1 Try.underlying22 hi _ _ _ rfl H0.out rfl ?_) | (at_builtin; refine wpList_append_own _ rfl _ _ 22 rfl w.heap.size 3 i0 (.int .i64 0) 1 8 Try.underlying22 hi iz0 iz1 iz2 rfl (by decide) _ _ _ rfl (World.ownsRow.alloc H0.out _) ⟨w.heap.size + 1, 0, none⟩ 1 1 [.int .i64 x] rfl rfl ?c1 ?c2 ?c3 ?c4 ?c5 ?_))
  case c1 =>
    have hc := cell_one_new (w.alloc (.cells #[] 3)) (.int .i64 x) 3
    simpa using hc
  case c2 => intro u hu; simp at hu; subst hu; rfl
  case c3 => unfold maxLen; simp
  case c4 => simp
  case c5 => simp; omega
  intro v' w3 hown hgrow _
  have HR3 := Lib.hid (Row.appended (l := []) hown)
  have hb : Below w.heap.size w ((w.alloc (.cells #[] 3)).alloc (.cells #[.int .i64 x] 3)) := by (repeat' (first | (with_reducible assumption) | (with_reducible exact Below.refl _ _) | (with_reducible refine below_drewN ?_ _) | (with_reducible refine Below.drew ?_) | (with_reducible refine Below.alloc ?_ ?_ _) | (with_reducible refine Below.setCell ?_ ?_ _) | (with_reducible refine Below.trans ?_ (Below.mono (by assumption) ?_)) | (with_reducible exact Nat.le_refl _) | (with_reducible assumption) | omega | (simp; omega) | (simp; done)))
  have HB3 := Lib.hid (hb.grown hgrow (by simp; omega) (fun g hg => (H0.out.lt g hg).1))
  clear hown hgrow hb
  go_wp2_with (at_builtin; refine wpList_append_own_none rfl _ _ 22 rfl w.heap.size 3 i0 1 Try.underlying22 hi _ _ _ rfl HR3.out rfl ?_)
  go_ret
  exact ⟨_, rfl, HR3.out, HB3.out⟩
theorem Row.cap {w : World} {B g n cap : Nat} {l : List Int} (h : Row w B (.slice (some ⟨g, 0, none⟩) n cap) l) : n ≤ cap := by
  rcases h.2 with ⟨h', _⟩ | ⟨g', cap', cur, h', _, hg, hc, _⟩
  · simp at h'
  · simp at h'
    obtain ⟨rfl, h2, rfl⟩ := h'
    omega
theorem take_get (l : List Int) (k j : Nat) (u : Value) (h : ((l.take k).map (Value.int .i64))[j]? = some u) : j < k ∧ j < l.length ∧ u = .int .i64 (l.getD j 0) := by
  rw [List.getElem?_map] at h
  obtain ⟨x, hx, rfl⟩ := Option.map_eq_some_iff.1 h
  have hj := (List.getElem?_eq_some_iff.1 hx).1
  rw [List.length_take] at hj
  refine ⟨by omega, by omega, ?_⟩
  rw [List.getElem?_take, if_pos (by omega)] at hx
  simp [List.getD, hx]
theorem drop_get (l : List Int) (k j : Nat) (u : Value) (h : ((l.drop k).map (Value.int .i64))[j]? = some u) : k + j < l.length ∧ u = .int .i64 (l.getD (k + j) 0) := by
  rw [List.getElem?_map] at h
  obtain ⟨x, hx, rfl⟩ := Option.map_eq_some_iff.1 h
  have hj := (List.getElem?_eq_some_iff.1 hx).1
  rw [List.length_drop] at hj
  refine ⟨by omega, ?_⟩
  rw [List.getElem?_drop] at hx
  simp [List.getD, hx]
theorem add_off (g o j : Nat) : (⟨g, o, none⟩ : Addr).add j = ⟨g, o + j, none⟩ := by by_cases h0 : j = 0 <;> simp [Addr.add, h0]
theorem Row.app {w : World} {B n m : Nat} {v' : Value} {l r : List Int} (hl : l.length = n) (hr : r.length = m) (h : w.ownsRow B 3 1 v' (n + m) (l.map (Value.int .i64) ++ r.map (Value.int .i64))) : Row w B v' (l ++ r) := by
  unfold Row
  rw [List.length_append, List.map_append, hl, hr]
  exact h
theorem ints_one (l : List Int) : ∀ u ∈ l.map (Value.int .i64), u.oneCell' = true := fun u hu => by
  obtain ⟨x, _, rfl⟩ := List.mem_map.1 hu
  rfl
theorem Row.of {w : World} {B n : Nat} {v : Value} {l : List Int} {xs : List Value} (h : w.ownsRow B 3 1 v n xs) (hn : n = l.length) (hx : xs = l.map (Value.int .i64)) : Row w B v l := by
  subst hn hx
  exact h
theorem take_news {w : World} {g n j : Nat} {l : List Int} (hn : l.length = n) (hc : ∀ i, i < n → w.cell? ⟨g, i, none⟩ = some (.int .i64 (l.getD i 0))) : ∀ i u, ((l.take j).map (Value.int .i64))[i]? = some u → w.cell? ((⟨g, 0, none⟩ : Addr).add i) = some u := by
  intro i u hiu
  obtain ⟨h1, h2, rfl⟩ := take_get _ _ _ _ hiu
  rw [add_off, Nat.zero_add]
  exact hc i (by omega)
theorem drop_news {w : World} {g n j : Nat} {l : List Int} (hn : l.length = n) (hc : ∀ i, i < n → w.cell? ⟨g, i, none⟩ = some (.int .i64 (l.getD i 0))) : ∀ i u, ((l.drop j).map (Value.int .i64))[i]? = some u → w.cell? ((⟨g, j, none⟩ : Addr).add i) = some u := by
  intro i u hiu
  obtain ⟨h1, rfl⟩ := drop_get _ _ _ _ hiu
  rw [add_off]
  exact hc _ (by omega)

set_option maxRecDepth 100000 in
set_option maxHeartbeats 2000000 in
theorem l1Put_any (v : Value) (l : List Int) (x : Int) (B : Nat) (w : World) (h : Row w B v l) (h0 : 0 < l.length) (hl : l.length ≤ 1000) (hB : B ≤ w.heap.size) :
    Calls Try.prog 97 #[v, .int .i64 x] w fun e w' => ∃ v', e = .returned v' ∧ Row w' B v' (ins l x) ∧ Below w.heap.size w w' := by
  obtain ⟨i0, hi, iz0, iz1, iz2⟩ := info_parts Try.infoI
  obtain ⟨g, cap, rfl, hgB, hgl⟩ := h.form h0
  have hcap := h.cap
  have HC : Hid (∀ j, j < l.length → w.cell? ⟨g, j, none⟩ = some (.int .i64 (l.getD j 0))) := Lib.hid (fun j hj => h.cell j hj)
  have hk := cnt_le l x
  have HLT := Lib.hid (cnt_lt l x)
  have HAT := Lib.hid (cnt_at l x)
  have hins : ins l x = if cnt l x < l.length ∧ l.getD (cnt l x) 0 = x then l else l.take (cnt l x) ++ x :: l.drop (cnt l x) := rfl
  have HR := Lib.hid h; clear h
  generalize hke : cnt l x = k at *
  clear hke
  generalize hn : l.length = n at *
  have HN := Lib.hid hn; clear hn
  have HINS := Lib.hid hins; clear hins
  go_enter Try.func97, Try.ntmps97
  go_wp2_with fail
  go_loop [5] (fun vk => ∃ j : Nat, j ≤ k ∧ vk = .int .i64 j) (fun vk => k - (intOf vk).toNat)
  case atStart => exact ⟨0, Nat.zero_le _, rfl⟩
  case round =>
    obtain ⟨j, hj, rfl⟩ := hrel
    by_cases hlt : j < k
    · have hc := HC.out j (by omega)
      have ht := HLT.out j hlt
      generalize l.getD j 0 = u at *
      go_wp2
      go_round
      case rel => exact ⟨j + 1, by omega, by go_num⟩
      case measure => simp [intOf]; omega
    · obtain rfl : j = k := by omega
      by_cases hkn : j < n
      · have hc := HC.out j hkn
        have ht := HAT.out hkn
        have hin : Hid (l.drop j = l.getD j 0 :: l.drop (j + 1)) := Lib.hid (drop_getD l j (by rw [HN.out]; exact hkn))
        generalize hu : l.getD j 0 = u at *
        by_cases he : u = x
        · subst he
          have ht2 : ¬ u < u := by omega
          have hq : (u == u) = true := by simp
          go_wp2
          go_ret
          refine ⟨_, rfl, ?_, Below.refl _ _⟩
          rw [HINS.out, if_pos ⟨hkn, trivial⟩]
          exact HR.out
        · have hq : (u == x) = false := by simpa using he
          have hn1 : ¬ cap = j := by omega
          have hn2 : ¬ j = cap := by omega
          have H0 : Hid ((w.alloc (.cells #[] 3)).ownsRow w.heap.size 3 1 (.slice (some ⟨w.heap.size, 0, none⟩) 0 0) 0 []) := Lib.hid (Row.lit0 w)
          go_wp2_with (at_builtin; refine wpList_append_own _ rfl _ _ 22 rfl w.heap.size 3 i0 (.int .i64 0) 1 8 Try.underlying22 hi iz0 iz1 iz2 rfl (by decide) _ _ _ rfl H0.out ⟨g, 0, none⟩ j cap ((l.take j).map (Value.int .i64)) rfl (by rw [List.length_map, List.length_take, HN.out]; omega) (take_news HN.out (fun i hi => (World.cell?_alloc_past _ _ _ hgl).trans (HC.out i hi))) (ints_one _) (by unfold maxLen; omega) (by omega) (by simp) ?_)
          intro v1 w1 hown hgrow _
          have HL1 : Hid ((l.take j).length = j) := Lib.hid (by rw [List.length_take, HN.out]; omega)
          have HR1 := Lib.hid (Row.of (l := l.take j) hown (by rw [List.length_take, HN.out]; omega) (by simp [List.map_take]))
          have HB1 : Hid (Below w.heap.size w w1) := Lib.hid (Below.grown (by (repeat' (first | (with_reducible assumption) | (with_reducible exact Below.refl _ _) | (with_reducible refine below_drewN ?_ _) | (with_reducible refine Below.drew ?_) | (with_reducible refine Below.alloc ?_ ?_ _) | (with_reducible refine Below.setCell ?_ ?_ _) | (with_reducible refine Below.trans ?_ (Below.mono (by assumption) ?_)) | (with_reducible exact Nat.le_refl _) | (with_reducible assumption) | omega | (simp; omega) | (simp; done)))) hgrow (by simp) (fun g hg => (H0.out.lt g hg).1))
          have hz1 := HB1.out.size
          clear hown hgrow
          go_wp2_with (at_builtin; refine wpList_append_own _ rfl _ _ 22 rfl w.heap.size 3 i0 (.int .i64 0) 1 8 Try.underlying22 hi iz0 iz1 iz2 rfl (by decide) _ _ _ rfl (World.ownsRow.alloc HR1.out _) ⟨w1.heap.size, 0, none⟩ 1 1 [.int .i64 x] rfl rfl (cell_one_new _ _ _) (by intro u hu; simp at hu; subst hu; rfl) (by have := HL1.out; unfold maxLen; omega) (by have := HL1.out; omega) (by simp; omega) ?_)
          intro v2 w2 hown hgrow _
          have HL2 : Hid ((l.take j ++ [x]).length = j + 1) := Lib.hid (by rw [List.length_append, List.length_take, HN.out]; simp; omega)
          have HR2 := Lib.hid (Row.of (l := l.take j ++ [x]) hown (by rw [HL2.out]; have := HN.out; omega) (by simp [List.map_take]))
          have hb : Below w.heap.size w (w1.alloc (.cells #[.int .i64 x] 3)) := by have hb1 := HB1.out; (repeat' (first | (with_reducible assumption) | (with_reducible exact Below.refl _ _) | (with_reducible refine below_drewN ?_ _) | (with_reducible refine Below.drew ?_) | (with_reducible refine Below.alloc ?_ ?_ _) | (with_reducible refine Below.setCell ?_ ?_ _) | (with_reducible refine Below.trans ?_ (Below.mono (by assumption) ?_)) | (with_reducible exact Nat.le_refl _) | (with_reducible assumption) | omega | (simp; omega) | (simp; done)))
          have HB2 := Lib.hid (hb.grown hgrow (by simp; omega) (fun g hg => (HR1.out.lt g hg).1))
          have hz2 := HB2.out.size
          clear hown hgrow hb
          go_wp2_with (at_builtin; refine wpList_append_own _ rfl _ _ 22 rfl w.heap.size 3 i0 (.int .i64 0) 1 8 Try.underlying22 hi iz0 iz1 iz2 rfl (by decide) _ _ _ rfl HR2.out ⟨g, j, none⟩ (n - j) (cap - j) ((l.drop j).map (Value.int .i64)) rfl (by rw [List.length_map, List.length_drop, HN.out]; have := HN.out; omega) (drop_news HN.out (fun i hi => (HB2.out.cell (p := ⟨g, i, none⟩) hgl).trans (HC.out i hi))) (ints_one _) (by have := HL2.out; unfold maxLen; omega) (by have := HL2.out; omega) hz2 ?_)
          intro v3 w3 hown hgrow _
          have HR3 := Lib.hid (Row.of (l := l.take j ++ [x] ++ l.drop j) hown (by rw [List.length_append, HL2.out, List.length_drop, HN.out]; have := HN.out; omega) (by simp [List.map_take, List.map_drop]))
          have HB3 := Lib.hid (HB2.out.grown hgrow hz2 (fun g hg => (HR2.out.lt g hg).1))
          clear hown hgrow
          go_wp2
          go_ret
          refine ⟨_, rfl, ?_, HB3.out⟩
          rw [HINS.out, if_neg (by intro h; exact he h.2)]
          have hr := HR3.out.mono hB
          simpa using hr
      · obtain rfl : n = j := by omega
        by_cases hcn : n = cap
        · obtain rfl := hcn
          have H0 : Hid ((w.alloc (.cells #[] 3)).ownsRow w.heap.size 3 1 (.slice (some ⟨w.heap.size, 0, none⟩) 0 0) 0 []) := Lib.hid (Row.lit0 w)
          go_wp2_with (at_builtin; refine wpList_append_own _ rfl _ _ 22 rfl w.heap.size 3 i0 (.int .i64 0) 1 8 Try.underlying22 hi iz0 iz1 iz2 rfl (by decide) _ _ _ rfl H0.out ⟨g, 0, none⟩ n _ ((l.take n).map (Value.int .i64)) rfl (by have := HN.out; rw [List.length_map, List.length_take]; omega) (take_news HN.out (fun i hi => (World.cell?_alloc_past _ _ _ hgl).trans (HC.out i hi))) (ints_one _) (by unfold maxLen; omega) (by omega) (by simp) ?_)
          intro v1 w1 hown hgrow _
          have HL1 : Hid ((l.take n).length = n) := Lib.hid (by have := HN.out; rw [List.length_take]; omega)
          have HR1 := Lib.hid (Row.of (l := l.take n) hown (by rw [HL1.out]) (by simp [List.map_take]))
          have HB1 : Hid (Below w.heap.size w w1) := Lib.hid (Below.grown (by (repeat' (first | (with_reducible assumption) | (with_reducible exact Below.refl _ _) | (with_reducible refine below_drewN ?_ _) | (with_reducible refine Below.drew ?_) | (with_reducible refine Below.alloc ?_ ?_ _) | (with_reducible refine Below.setCell ?_ ?_ _) | (with_reducible refine Below.trans ?_ (Below.mono (by assumption) ?_)) | (with_reducible exact Nat.le_refl _) | (with_reducible assumption) | omega | (simp; omega) | (simp; done)))) hgrow (by simp) (fun g hg => (H0.out.lt g hg).1))
          have hz1 := HB1.out.size
          clear hown hgrow
          go_wp2_with (at_builtin; refine wpList_append_own _ rfl _ _ 22 rfl w.heap.size 3 i0 (.int .i64 0) 1 8 Try.underlying22 hi iz0 iz1 iz2 rfl (by decide) _ _ _ rfl (World.ownsRow.alloc HR1.out _) ⟨w1.heap.size, 0, none⟩ 1 1 [.int .i64 x] rfl rfl (cell_one_new _ _ _) (by intro u hu; simp at hu; subst hu; rfl) (by have := HL1.out; unfold maxLen; omega) (by have := HL1.out; omega) (by simp; omega) ?_)
          intro v2 w2 hown hgrow _
          have HL2 : Hid ((l.take n ++ [x]).length = n + 1) := Lib.hid (by have := HN.out; rw [List.length_append, List.length_take]; simp; omega)
          have HR2 := Lib.hid (Row.of (l := l.take n ++ [x]) hown (by rw [HL2.out]; have := HN.out; omega) (by simp [List.map_take]))
          have hb : Below w.heap.size w (w1.alloc (.cells #[.int .i64 x] 3)) := by have hb1 := HB1.out; (repeat' (first | (with_reducible assumption) | (with_reducible exact Below.refl _ _) | (with_reducible refine below_drewN ?_ _) | (with_reducible refine Below.drew ?_) | (with_reducible refine Below.alloc ?_ ?_ _) | (with_reducible refine Below.setCell ?_ ?_ _) | (with_reducible refine Below.trans ?_ (Below.mono (by assumption) ?_)) | (with_reducible exact Nat.le_refl _) | (with_reducible assumption) | omega | (simp; omega) | (simp; done)))
          have HB2 := Lib.hid (hb.grown hgrow (by simp; omega) (fun g hg => (HR1.out.lt g hg).1))
          have hz2 := HB2.out.size
          clear hown hgrow hb
          go_wp2_with (at_builtin; refine wpList_append_own _ rfl _ _ 22 rfl w.heap.size 3 i0 (.int .i64 0) 1 8 Try.underlying22 hi iz0 iz1 iz2 rfl (by decide) _ _ _ rfl HR2.out _ 0 _ [] rfl rfl (by intro _ _ h; cases h) (by intro _ h; cases h) (by have := HL2.out; unfold maxLen; omega) (by have := HL2.out; omega) hz2 ?_)
          intro v3 w3 hown hgrow _
          have HR3 := Lib.hid (Row.of (l := l.take n ++ [x]) hown (by rw [HL2.out]; have := HN.out; omega) (by simp [List.map_take]))
          have HB3 := Lib.hid (HB2.out.grown hgrow hz2 (fun g hg => (HR2.out.lt g hg).1))
          clear hown hgrow
          go_wp2
          go_ret
          refine ⟨_, rfl, ?_, HB3.out⟩
          rw [HINS.out, if_neg (by omega), List.drop_of_length_le (by rw [HN.out]; exact Nat.le_refl _)]
          exact HR3.out.mono hB
        · have hn1 : ¬ cap = n := by omega
          have H0 : Hid ((w.alloc (.cells #[] 3)).ownsRow w.heap.size 3 1 (.slice (some ⟨w.heap.size, 0, none⟩) 0 0) 0 []) := Lib.hid (Row.lit0 w)
          go_wp2_with (at_builtin; refine wpList_append_own _ rfl _ _ 22 rfl w.heap.size 3 i0 (.int .i64 0) 1 8 Try.underlying22 hi iz0 iz1 iz2 rfl (by decide) _ _ _ rfl H0.out ⟨g, 0, none⟩ n _ ((l.take n).map (Value.int .i64)) rfl (by have := HN.out; rw [List.length_map, List.length_take]; omega) (take_news HN.out (fun i hi => (World.cell?_alloc_past _ _ _ hgl).trans (HC.out i hi))) (ints_one _) (by unfold maxLen; omega) (by omega) (by simp) ?_)
          intro v1 w1 hown hgrow _
          have HL1 : Hid ((l.take n).length = n) := Lib.hid (by have := HN.out; rw [List.length_take]; omega)
          have HR1 := Lib.hid (Row.of (l := l.take n) hown (by rw [HL1.out]) (by simp [List.map_take]))
          have HB1 : Hid (Below w.heap.size w w1) := Lib.hid (Below.grown (by (repeat' (first | (with_reducible assumption) | (with_reducible exact Below.refl _ _) | (with_reducible refine below_drewN ?_ _) | (with_reducible refine Below.drew ?_) | (with_reducible refine Below.alloc ?_ ?_ _) | (with_reducible refine Below.setCell ?_ ?_ _) | (with_reducible refine Below.trans ?_ (Below.mono (by assumption) ?_)) | (with_reducible exact Nat.le_refl _) | (with_reducible assumption) | omega | (simp; omega) | (simp; done)))) hgrow (by simp) (fun g hg => (H0.out.lt g hg).1))
          have hz1 := HB1.out.size
          clear hown hgrow
          go_wp2_with (at_builtin; refine wpList_append_own _ rfl _ _ 22 rfl w.heap.size 3 i0 (.int .i64 0) 1 8 Try.underlying22 hi iz0 iz1 iz2 rfl (by decide) _ _ _ rfl (World.ownsRow.alloc HR1.out _) ⟨w1.heap.size, 0, none⟩ 1 1 [.int .i64 x] rfl rfl (cell_one_new _ _ _) (by intro u hu; simp at hu; subst hu; rfl) (by have := HL1.out; unfold maxLen; omega) (by have := HL1.out; omega) (by simp; omega) ?_)
          intro v2 w2 hown hgrow _
          have HL2 : Hid ((l.take n ++ [x]).length = n + 1) := Lib.hid (by have := HN.out; rw [List.length_append, List.length_take]; simp; omega)
          have HR2 := Lib.hid (Row.of (l := l.take n ++ [x]) hown (by rw [HL2.out]; have := HN.out; omega) (by simp [List.map_take]))
          have hb : Below w.heap.size w (w1.alloc (.cells #[.int .i64 x] 3)) := by have hb1 := HB1.out; (repeat' (first | (with_reducible assumption) | (with_reducible exact Below.refl _ _) | (with_reducible refine below_drewN ?_ _) | (with_reducible refine Below.drew ?_) | (with_reducible refine Below.alloc ?_ ?_ _) | (with_reducible refine Below.setCell ?_ ?_ _) | (with_reducible refine Below.trans ?_ (Below.mono (by assumption) ?_)) | (with_reducible exact Nat.le_refl _) | (with_reducible assumption) | omega | (simp; omega) | (simp; done)))
          have HB2 := Lib.hid (hb.grown hgrow (by simp; omega) (fun g hg => (HR1.out.lt g hg).1))
          have hz2 := HB2.out.size
          clear hown hgrow hb
          go_wp2_with (at_builtin; refine wpList_append_own _ rfl _ _ 22 rfl w.heap.size 3 i0 (.int .i64 0) 1 8 Try.underlying22 hi iz0 iz1 iz2 rfl (by decide) _ _ _ rfl HR2.out _ 0 _ [] rfl rfl (by intro _ _ h; cases h) (by intro _ h; cases h) (by have := HL2.out; unfold maxLen; omega) (by have := HL2.out; omega) hz2 ?_)
          intro v3 w3 hown hgrow _
          have HR3 := Lib.hid (Row.of (l := l.take n ++ [x]) hown (by rw [HL2.out]; have := HN.out; omega) (by simp [List.map_take]))
          have HB3 := Lib.hid (HB2.out.grown hgrow hz2 (fun g hg => (HR2.out.lt g hg).1))
          clear hown hgrow
          go_wp2
          go_ret
          refine ⟨_, rfl, ?_, HB3.out⟩
          rw [HINS.out, if_neg (by omega), List.drop_of_length_le (by rw [HN.out]; exact Nat.le_refl _)]
          exact HR3.out.mono hB
theorem sn_stop {f : Nat → Int} {k : Nat} (h : f k ≠ 0) : sn f (k + 1) = k + 1 := by simp [sn, h]
theorem sn_go {f : Nat → Int} {k : Nat} (h : f k = 0) : sn f (k + 1) = sn f k := by simp [sn, h]
theorem redR_zero (q : Nat) (c : Nat → Int) : List.replicate q 0 = fl (redR q c 0) q := by
  refine List.ext_getElem (by simp [fl]) fun j h1 h2 => ?_
  simp [fl, redR]
theorem Sl.parts {w : World} {v : Value} {f : Nat → Int} {n : Nat} (h : Sl w v (fl f n)) : ∃ a cap, v = .slice a n cap ∧ (0 < n → ∃ b off, a = some ⟨b, off, none⟩ ∧ b < w.heap.size ∧ ∀ i, i < n → w.cell? ⟨b, off + i, none⟩ = some (.int .i64 (f i))) := by
  by_cases h0 : 0 < n
  · obtain ⟨b, off, cap, rfl, hb, hc⟩ := h.open (fl_len _ _) h0
    exact ⟨_, _, rfl, fun _ => ⟨b, off, rfl, hb, fun i hi => by have := hc i hi; rwa [fl_get _ _ _ hi] at this⟩⟩
  · obtain rfl : n = 0 := by omega
    obtain ⟨a, cap, rfl⟩ := Sl.empty (show Sl w v [] from h)
    exact ⟨_, _, rfl, fun h => by omega⟩
theorem cou_zero (q : Int) (f g : Nat → Int) (k N : Nat) : List.replicate N 0 = fl (cou q f g k 0) N := by
  refine List.ext_getElem (by simp [fl]) fun j h1 h2 => ?_
  simp [fl, cou]
theorem l1Most_any (n k : Nat) (w : World) : Calls Try.prog 131 #[.int .i64 n, .int .i64 k] w fun e w' => e = .returned (.int .i64 ((max n k : Nat) : Int)) ∧ w' = w := by
  by_cases h : k < n
  · have h1 : (k : Int) < (n : Int) := by omega
    rw [Nat.max_eq_left (by omega)]
    go_enter Try.func131, Try.ntmps131
    go_wp2
    go_ret
    exact ⟨rfl, rfl⟩
  · have h1 : ¬ (k : Int) < (n : Int) := by omega
    rw [Nat.max_eq_right (by omega)]
    go_enter Try.func131, Try.ntmps131
    go_wp2
    go_ret
    exact ⟨rfl, rfl⟩
theorem Row.whole {w : World} {B g N : Nat} {l : List Int} (h : Row w B (.slice (some ⟨g, 0, none⟩) N N) l) (hl : l.length = N) : w.heap[g]? = some (.cells ((l.map (Value.int .i64)).toArray) 3 (0, 0)) := by
  rcases h.2 with ⟨h', _⟩ | ⟨g', cap', cur, h', _, hh, _, _, hs, hx⟩
  · simp at h'
  · simp at h'
    obtain ⟨rfl, h2, rfl⟩ := h'
    rw [hl, List.take_of_length_le (by rw [Array.length_toList, hs]; exact Nat.le_refl _)] at hx
    rw [← hx]
    exact hh
theorem Row.heap {w : World} {B g N : Nat} {l : List Int} (h : w.heap[g]? = some (.cells ((l.map (Value.int .i64)).toArray) 3 (0, 0))) (hB : B ≤ g) (hl : l.length = N) (hN : N ≤ maxLen) : Row w B (.slice (some ⟨g, 0, none⟩) N N) l := by
  subst hl
  refine ⟨by simp, .inr ⟨g, l.length, _, rfl, hB, h, Nat.le_refl _, hN, by simp, ?_⟩⟩
  rw [List.take_of_length_le (by simp)]
theorem fl_pad {f : Nat → Int} {n N : Nat} (h : n ≤ N) (hz : ∀ i, n ≤ i → f i = 0) (u : Int → Value) : splice ((List.replicate N (0 : Int)).map u) 0 ((fl f n).map u) = (fl f N).map u := by
  unfold splice
  refine List.ext_getElem (by simp [fl]; omega) fun j h1 h2 => ?_
  simp [fl]
  by_cases hj : j < n
  · rw [List.getElem_append_left (by simpa using hj)]
    simp
  · rw [List.getElem_append_right (by simp; omega)]
    simp
    rw [hz j (by omega)]
end Go.Proofs.Ytapglncgicfjnaa
