/- ParsePoly, of the program, by contracts; the walk of its law. -/
import Derived.Test.YthklnfanbegecacDoorJI
namespace Go.Proofs.YthklnfanbegecacDoor
open Go.RowKit
theorem good_16 {q : Int} {l : List Int} (h : isSz q = true) (hg : good q l = true) : ∀ i, i < l.length → 0 ≤ l.getD i 0 ∧ l.getD i 0 < 16 := fun i hi => by
  have hq := isSz_le q h
  have hx := List.all_eq_true.1 (good_parts hg).2 (l.getD i 0) (by rw [show l.getD i 0 = l[i] by simp [List.getD, hi]]; exact List.getElem_mem hi)
  simp only [inF, Bool.and_eq_true, decide_eq_true_eq] at hx
  omega
/-- The words of the text of a polynomial. -/
theorem words_of {q : Int} {l : List UInt8} {L : List Int} (h : isSz q = true) (hg : good q L = true) (hp : 0 < L.length) (ht : txt (fun i => L.getD i 0) L.length = l) :
    (spl l).length = L.length ∧ ∀ i, i < L.length → (spl l).getD i [] = num (L.getD i 0) := by
  have hs := spl_txt (fun i => L.getD i 0) L.length hp (good_16 h hg)
  rw [ht] at hs
  refine ⟨by rw [hs]; simp, fun i hi => ?_⟩
  rw [hs]
  simp [List.getD, hi]
theorem okP_parts {q : Int} {l : List UInt8} (h : okP q l = true) : isSz q = true ∧ good q (rds l) = true ∧ txt (fun i => (rds l).getD i 0) (rds l).length = l := by
  simp only [okP, Bool.and_eq_true, decide_eq_true_eq] at h
  exact ⟨h.1.1, h.1.2, h.2⟩
theorem okP_words {q : Int} {l : List UInt8} (h : okP q l = true) : ((spl l).length : Int) ≤ q ∧ ∀ i, i < (spl l).length → Lib.atoiAll ((spl l).getD i []) = .ok ((rds l).getD i 0) := by
  obtain ⟨h1, h2, h3⟩ := okP_parts h
  obtain ⟨e, hw⟩ := words_of h1 h2 (rds_pos l) h3
  refine ⟨by rw [e]; exact (good_parts h2).1, fun i hi => ?_⟩
  rw [e] at hi
  rw [hw i hi]
  exact atoi_num _ (good_16 h1 h2 i hi).1 (good_16 h1 h2 i hi).2
theorem okP_read {q : Int} {l : List UInt8} (h : okP q l = true) : fl (atv (spl l)) (spl l).length = rds l := by
  obtain ⟨_, hw⟩ := okP_words h
  rw [fl_of (rds l), rds_len]
  refine fl_congr fun i hi => ?_
  unfold atv
  rw [hw i hi]
/-- What the program reads, where it is a polynomial with this text, is what the model reads. -/
theorem okP_of {q : Int} {l : List UInt8} {L : List Int} (h : isSz q = true) (hg : good q L = true) (hp : 0 < L.length) (ht : txt (fun i => L.getD i 0) L.length = l) : okP q l = true := by
  obtain ⟨e, hw⟩ := words_of h hg hp ht
  have hr : rds l = L := by
    rw [fl_of (rds l), fl_of L, rds_len, e]
    refine fl_congr fun i hi => ?_
    have hi' : i < (spl l).length := by rw [e]; exact hi
    have : (rds l).getD i 0 = rd ((spl l).getD i []) := by simp [rds, List.getD, hi']
    rw [this, hw i hi]
    exact rd_num _ (good_16 h hg i hi).1 (good_16 h hg i hi).2
  unfold okP
  rw [hr, h, hg, ht]
  simp
theorem parseList_yes (q : Int) (l : List UInt8) (w : World) (G : Gl w) (hl : l.length ≤ 1048576) (hd : l ≠ [45]) (h : okP q l = true) :
    Calls Tryd.prog 11 #[.string (bt l), .int .i64 q] w fun e w' => ∃ v, e = .returned (.tuple #[v, .bool true]) ∧ Row w' w.heap.size v (rds l) ∧ Below w.heap.size w w' := by
  have hq := isSz_le q (okP_parts h).1
  obtain ⟨hq1, hw⟩ := okP_words h
  have hp := spl_len l
  obtain ⟨n, rfl⟩ := Int.eq_ofNat_of_zero_le (show 0 ≤ q by omega)
  refine (parseList_any n (by omega) (by omega) l w G hl hd).mono fun e w' ⟨hx, hb⟩ => ?_
  rcases hx with ⟨_, v, he, hr⟩ | ⟨hx, _⟩
  · rw [okP_read h] at hr
    exact ⟨v, he, hr, hb⟩
  · exfalso
    rcases hx with hx | ⟨i, hi, hx⟩
    · omega
    · exact hx _ (hw i hi)
theorem parseList_no (q : Int) (hs : isSz q = true) (l : List UInt8) (w : World) (G : Gl w) (hl : l.length ≤ 1048576) (hd : l ≠ [45]) (h : okP q l = false) :
    Calls Tryd.prog 11 #[.string (bt l), .int .i64 q] w fun e w' => ((∃ v L, e = .returned (.tuple #[v, .bool true]) ∧ Row w' w.heap.size v L ∧ L.length ≤ 16 ∧ 0 < L.length ∧ (good q L = false ∨ (good q L = true ∧ txtB (fun i => L.getD i 0) L.length ≠ bt l))) ∨ e = .returned (.tuple #[.slice none 0 0, .bool false])) ∧ Below w.heap.size w w' := by
  have hq := isSz_le q hs
  have hp := spl_len l
  obtain ⟨n, rfl⟩ := Int.eq_ofNat_of_zero_le (show 0 ≤ q by omega)
  refine (parseList_any n (by omega) (by omega) l w G hl hd).mono fun e w' ⟨hx, hb⟩ => ⟨?_, hb⟩
  rcases hx with ⟨⟨hlen, _⟩, v, he, hr⟩ | ⟨_, he⟩
  · refine .inl ⟨v, _, he, hr, by rw [fl_len]; omega, by rw [fl_len]; omega, ?_⟩
    generalize hL : fl (atv (spl l)) (spl l).length = L at *
    have hLp : 0 < L.length := by rw [← hL, fl_len]; omega
    cases hg : good (n : Int) L with
    | false => exact .inl rfl
    | true =>
      refine .inr ⟨rfl, fun e => ?_⟩
      have ht : txt (fun i => L.getD i 0) L.length = l := by
        have := congrArg (fun b : ByteArray => b.data.toList) e
        simpa [txtB, bs, bt] using this
      rw [okP_of hs hg hLp ht] at h
      cases h
  · exact .inr he
set_option maxHeartbeats 1000000 in
theorem impl_ParsePoly_nosize (q : Int) (s : ByteArray) (w : World) (h : isSz q = false) :
    Calls Tryd.prog 5 #[.int .i64 q, .string s] w fun e w' => e = .returned (.tuple #[.slice none 0 0, .bool false]) ∧ Below w.heap.size w w' := by
  have HF := Lib.hid (fun w => fieldOf_no q w h)
  clear h
  go_enter Tryd.func5, Tryd.ntmps5
  go_wp2_with fail
  refine (HF.out _).mono ?_
  rintro e w1 ⟨rfl, hb1⟩
  have hz_hb1 := hb1.size; (try simp at hz_hb1)
  have HB1 := Lib.hid hb1; clear hb1
  go_wp2_with fail
  go_ret2
  have hb1 := HB1.out
  exact ⟨rfl, by (repeat' (first | (with_reducible assumption) | (with_reducible exact Below.refl _ _) | (with_reducible refine below_drewN ?_ _) | (with_reducible refine Below.drew ?_) | (with_reducible refine Below.alloc ?_ ?_ _) | (with_reducible refine Below.setCell ?_ ?_ _) | (with_reducible refine Below.trans ?_ (Below.mono (by assumption) ?_)) | (with_reducible exact Nat.le_refl _) | (with_reducible assumption) | omega | (simp; omega) | (simp; done)))⟩
set_option maxHeartbeats 1000000 in
theorem impl_ParsePoly_yes (q : Int) (l : List UInt8) (w : World) (G : Gl w) (hl : l.length ≤ 1048576) (hd : l ≠ [45]) (h : okP q l = true) :
    Calls Tryd.prog 5 #[.int .i64 q, .string (bt l)] w fun e w' => ∃ v, e = .returned (.tuple #[v, .bool true]) ∧ Row w' w.heap.size v (rds l) ∧ Below w.heap.size w w' := by
  obtain ⟨h1, h2, h3⟩ := okP_parts h
  have hq := isSz_le q h1
  have hlen := (good_parts h2).1
  have hlp := rds_pos l
  have HF := Lib.hid (fun w => fieldOf_yes q w h1)
  have HP := Lib.hid (fun w' (hb : Below w.heap.size w w') => parseList_yes q l w' (G.below hb (Nat.le_refl _)) hl hd h)
  have HI := Lib.hid (fun v w' (hs : Sl w' v (rds l)) => by have := isPoly_any q v (rds l) w' hs (by omega) (by omega); rw [h2] at this; exact this)
  have HT := Lib.hid (fun v w' (hs : Sl w' v (rds l)) => by
    have := listText_any v (rds l) w' hs (by omega) (good_nums h1 h2)
    rw [if_neg (by omega), show txtB (fun i => (rds l).getD i 0) (rds l).length = bt l from congrArg bs h3] at this
    exact this)
  clear h h1 h2 h3 hlen hlp hd hl
  generalize rds l = L at *
  generalize bt l = s at *
  go_enter Tryd.func5, Tryd.ntmps5
  go_wp2_with fail
  refine (HF.out _).mono ?_
  rintro e w1 ⟨rfl, hb1⟩
  obtain ⟨hc1, hf1⟩ := bcell hb1; have hz1 := hb1.size; (try simp at hz1); have HB1 := Lib.hid hb1; clear hb1
  have hb1 := HB1.out
  have hbw1 : Below w.heap.size w (w1.alloc (.cells #[.int .i64 q, .int .i64 (pr q), .int .i64 (pl q)] 29)) := by (repeat' (first | (with_reducible assumption) | (with_reducible exact Below.refl _ _) | (with_reducible refine below_drewN ?_ _) | (with_reducible refine Below.drew ?_) | (with_reducible refine Below.alloc ?_ ?_ _) | (with_reducible refine Below.setCell ?_ ?_ _) | (with_reducible refine Below.trans ?_ (Below.mono (by assumption) ?_)) | (with_reducible exact Nat.le_refl _) | (with_reducible assumption) | omega | (simp; omega) | (simp; done)))
  clear hb1
  go_wp2_with fail
  refine (HP.out _ (by (repeat' (first | (with_reducible assumption) | (with_reducible exact Below.refl _ _) | (with_reducible refine below_drewN ?_ _) | (with_reducible refine Below.drew ?_) | (with_reducible refine Below.alloc ?_ ?_ _) | (with_reducible refine Below.setCell ?_ ?_ _) | (with_reducible refine Below.trans ?_ (Below.mono (by assumption) ?_)) | (with_reducible exact Nat.le_refl _) | (with_reducible assumption) | omega | (simp; omega) | (simp; done))))).mono ?_
  rintro e w2 ⟨v, rfl, hr2, hb2⟩
  have HBW2 : Hid (Below w.heap.size w w2) := Lib.hid (hbw1.trans (hb2.mono hbw1.size))
  have hz1 := hbw1.size
  clear hbw1
  obtain ⟨hc2, hf2⟩ := bcell hb2; have hz2 := hb2.size; (try simp at hz2); have HB2 := Lib.hid hb2; clear hb2
  have HR2 := Lib.hid hr2; clear hr2
  have l2 : w1.heap.size < w2.heap.size := by omega
  go_wp2_with fail
  refine (HI.out _ _ HR2.out.sl).mono ?_
  rintro e w3 ⟨rfl, hb3⟩
  have HR3 := Lib.hid (HR2.out.below hb3)
  have HB3 := Lib.hid hb3; clear hb3
  go_wp2_with fail
  refine (HT.out _ _ HR3.out.sl).mono ?_
  rintro e w4 ⟨rfl, hb4⟩
  have HR4 := Lib.hid (HR3.out.below hb4)
  have HB4 := Lib.hid hb4; clear hb4
  go_wp2
  go_ret2
  have hb2 := HBW2.out
  have hb3 := HB3.out
  have hb4 := HB4.out
  exact ⟨_, rfl, HR4.out.mono (by omega), hb2.trans ((hb3.trans (hb4.mono hb3.size)).mono hb2.size)⟩
set_option maxHeartbeats 1000000 in
theorem impl_ParsePoly_dash (q : Int) (w : World) (h : isSz q = true) :
    Calls Tryd.prog 5 #[.int .i64 q, .string ⟨#[45]⟩] w fun e w' => e = .returned (.tuple #[.slice none 0 0, .bool true]) ∧ Below w.heap.size w w' := by
  have hq := isSz_le q h
  have HF := Lib.hid (fun w => fieldOf_yes q w h)
  have HI := Lib.hid (fun w' => by have := isPoly_any q (.slice none 0 0) [] w' (Sl.nil w') (by simp) (by omega); rw [good_nil q (by omega)] at this; exact this)
  have HT := Lib.hid (fun w' => listText_any (.slice none 0 0) [] w' (Sl.nil w') (by simp) (fun i hi => by simp at hi))
  rw [show (if ([] : List Int).length = 0 then (⟨#[45]⟩ : ByteArray) else txtB (fun i => ([] : List Int).getD i 0) ([] : List Int).length) = ⟨#[45]⟩ from rfl] at HT
  clear h
  go_enter Tryd.func5, Tryd.ntmps5
  go_wp2_with fail
  refine (HF.out _).mono ?_
  rintro e w1 ⟨rfl, hb1⟩
  obtain ⟨hc1, hf1⟩ := bcell hb1; have hz1 := hb1.size; (try simp at hz1); have HB1 := Lib.hid hb1; clear hb1
  have hb1 := HB1.out
  have hbw1 : Below w.heap.size w (w1.alloc (.cells #[.int .i64 q, .int .i64 (pr q), .int .i64 (pl q)] 29)) := by (repeat' (first | (with_reducible assumption) | (with_reducible exact Below.refl _ _) | (with_reducible refine below_drewN ?_ _) | (with_reducible refine Below.drew ?_) | (with_reducible refine Below.alloc ?_ ?_ _) | (with_reducible refine Below.setCell ?_ ?_ _) | (with_reducible refine Below.trans ?_ (Below.mono (by assumption) ?_)) | (with_reducible exact Nat.le_refl _) | (with_reducible assumption) | omega | (simp; omega) | (simp; done)))
  clear hb1
  go_wp2_with fail
  refine (parseList_dash q _).mono ?_
  rintro e w2 ⟨rfl, hb2⟩
  have HBW2 : Hid (Below w.heap.size w w2) := Lib.hid (hbw1.trans (hb2.mono hbw1.size))
  have hz1 := hbw1.size
  clear hbw1
  obtain ⟨hc2, hf2⟩ := bcell hb2; have hz2 := hb2.size; (try simp at hz2); have HB2 := Lib.hid hb2; clear hb2
  have l2 : w1.heap.size < w2.heap.size := by omega
  go_wp2_with fail
  refine (HI.out _).mono ?_
  rintro e w3 ⟨rfl, hb3⟩
  have HB3 := Lib.hid hb3; clear hb3
  go_wp2_with fail
  refine (HT.out _).mono ?_
  rintro e w4 ⟨rfl, hb4⟩
  have HB4 := Lib.hid hb4; clear hb4
  go_wp2
  go_ret2
  have hb2 := HBW2.out
  have hb3 := HB3.out
  have hb4 := HB4.out
  exact ⟨rfl, hb2.trans ((hb3.trans (hb4.mono hb3.size)).mono hb2.size)⟩
set_option maxHeartbeats 2000000 in
theorem impl_ParsePoly_no (q : Int) (l : List UInt8) (w : World) (G : Gl w) (hl : l.length ≤ 1048576) (hd : l ≠ [45]) (h1 : isSz q = true) (h : okP q l = false) :
    Calls Tryd.prog 5 #[.int .i64 q, .string (bt l)] w fun e w' => e = .returned (.tuple #[.slice none 0 0, .bool false]) ∧ Below w.heap.size w w' := by
  have hq := isSz_le q h1
  have HF := Lib.hid (fun w => fieldOf_yes q w h1)
  have HP := Lib.hid (fun w' (hb : Below w.heap.size w w') => parseList_no q h1 l w' (G.below hb (Nat.le_refl _)) hl hd h)
  have HI := Lib.hid (fun L v w' (hs : Sl w' v L) (hL : L.length ≤ 16) => isPoly_any q v L w' hs (by omega) (by omega))
  have HT := Lib.hid (fun L v w' (hs : Sl w' v L) (hL : L.length ≤ 16) (h0 : 0 < L.length) (hg : good q L = true) => by
    have := listText_any v L w' hs (by omega) (good_nums h1 hg)
    rw [if_neg (by omega)] at this
    exact this)
  clear h h1 hd hl
  generalize bt l = s at *
  go_enter Tryd.func5, Tryd.ntmps5
  go_wp2_with fail
  refine (HF.out _).mono ?_
  rintro e w1 ⟨rfl, hb1⟩
  obtain ⟨hc1, hf1⟩ := bcell hb1; have hz1 := hb1.size; (try simp at hz1); have HB1 := Lib.hid hb1; clear hb1
  have hb1 := HB1.out
  have hbw1 : Below w.heap.size w (w1.alloc (.cells #[.int .i64 q, .int .i64 (pr q), .int .i64 (pl q)] 29)) := by (repeat' (first | (with_reducible assumption) | (with_reducible exact Below.refl _ _) | (with_reducible refine below_drewN ?_ _) | (with_reducible refine Below.drew ?_) | (with_reducible refine Below.alloc ?_ ?_ _) | (with_reducible refine Below.setCell ?_ ?_ _) | (with_reducible refine Below.trans ?_ (Below.mono (by assumption) ?_)) | (with_reducible exact Nat.le_refl _) | (with_reducible assumption) | omega | (simp; omega) | (simp; done)))
  clear hb1
  go_wp2_with fail
  refine (HP.out _ (by (repeat' (first | (with_reducible assumption) | (with_reducible exact Below.refl _ _) | (with_reducible refine below_drewN ?_ _) | (with_reducible refine Below.drew ?_) | (with_reducible refine Below.alloc ?_ ?_ _) | (with_reducible refine Below.setCell ?_ ?_ _) | (with_reducible refine Below.trans ?_ (Below.mono (by assumption) ?_)) | (with_reducible exact Nat.le_refl _) | (with_reducible assumption) | omega | (simp; omega) | (simp; done))))).mono ?_
  rintro e w2 ⟨hx, hb2⟩
  have HBW2 : Hid (Below w.heap.size w w2) := Lib.hid (hbw1.trans (hb2.mono hbw1.size))
  have hz1 := hbw1.size
  clear hbw1
  obtain ⟨hc2, hf2⟩ := bcell hb2; have hz2 := hb2.size; (try simp at hz2); have HB2 := Lib.hid hb2; clear hb2
  have l2 : w1.heap.size < w2.heap.size := by omega
  rcases hx with ⟨v, L, rfl, hr2, hL, hL0, hgg⟩ | rfl
  · have HR2 := Lib.hid hr2; clear hr2
    rcases hgg with hg | ⟨hg, hne⟩
    · have hi := HI.out L v w2 HR2.out.sl hL
      rw [hg] at hi
      have HII := Lib.hid hi; clear hi hg HI HT
      go_wp2_with fail
      refine HII.out.mono ?_
      rintro e w3 ⟨rfl, hb3⟩
      have HB3 := Lib.hid hb3; clear hb3
      go_wp2
      go_ret2
      have hb2 := HBW2.out
      have hb3 := HB3.out
      exact ⟨rfl, hb2.trans (hb3.mono hb2.size)⟩
    · have hi := HI.out L v w2 HR2.out.sl hL
      rw [hg] at hi
      have HII := Lib.hid hi; clear hi
      have HTT := Lib.hid (fun w' hs => HT.out L v w' hs hL hL0 hg)
      have hne' := ne_bytes hne
      clear hg hne HI HT
      generalize txtB (fun i => L.getD i 0) L.length = T at *
      go_wp2_with fail
      refine HII.out.mono ?_
      rintro e w3 ⟨rfl, hb3⟩
      have HR3 := Lib.hid (HR2.out.below hb3)
      have HB3 := Lib.hid hb3; clear hb3
      go_wp2_with fail
      refine (HTT.out _ HR3.out.sl).mono ?_
      rintro e w4 ⟨rfl, hb4⟩
      have HB4 := Lib.hid hb4; clear hb4
      go_wp2
      go_ret2
      have hb2 := HBW2.out
      have hb3 := HB3.out
      have hb4 := HB4.out
      exact ⟨rfl, hb2.trans ((hb3.trans (hb4.mono hb3.size)).mono hb2.size)⟩
  · go_wp2
    go_ret2
    exact ⟨rfl, HBW2.out⟩
theorem rds_small (q : Int) (l : List UInt8) (h : okP q l = true) : (rds l).length ≤ 16 := by
  obtain ⟨h1, h2, _⟩ := okP_parts h
  have := isSz_le q h1
  have := (good_parts h2).1
  omega
theorem key_ParsePoly (q : Int) (l : List UInt8) (hl : l.length ≤ 1048576) : ∃ (r : List Int) (o : Bool), r.length ≤ 1048576 ∧
      (∀ (w : World), Calls Tryd.prog 4 #[.int .i64 q, .string (bt l)] w fun e w' => ∃ v, e = .returned (.tuple #[v, .bool o]) ∧ Row w' w.heap.size v r ∧ Below w.heap.size w w') ∧
      (∀ (w : World), Gl w → Calls Tryd.prog 5 #[.int .i64 q, .string (bt l)] w fun e w' => ∃ v, e = .returned (.tuple #[v, .bool o]) ∧ Row w' w.heap.size v r ∧ Below w.heap.size w w') := by
  by_cases hd : l = [45]
  · subst hd
    refine ⟨[], isSz q, by simp, fun w => (spec_ParsePoly_dash q w).mono fun _ _ ⟨he, hb⟩ => ⟨_, he, Row.nil _ _, hb⟩, fun w _ => ?_⟩
    cases h : isSz q with
    | true => exact (impl_ParsePoly_dash q w h).mono fun _ _ ⟨he, hb⟩ => ⟨_, he, Row.nil _ _, hb⟩
    | false => exact (impl_ParsePoly_nosize q _ w h).mono fun _ _ ⟨he, hb⟩ => ⟨_, he, Row.nil _ _, hb⟩
  · cases h : okP q l with
    | true => exact ⟨rds l, true, by have := rds_small q l h; omega, fun w => spec_ParsePoly_yes q l w hl hd h, fun w G => impl_ParsePoly_yes q l w G hl hd h⟩
    | false =>
      refine ⟨[], false, by simp, fun w => (spec_ParsePoly_no q l w hl hd h).mono fun _ _ ⟨he, hb⟩ => ⟨_, he, Row.nil _ _, hb⟩, fun w G => ?_⟩
      cases hs : isSz q with
      | true => exact (impl_ParsePoly_no q l w G hl hd hs h).mono fun _ _ ⟨he, hb⟩ => ⟨_, he, Row.nil _ _, hb⟩
      | false => exact (impl_ParsePoly_nosize q _ w hs).mono fun _ _ ⟨he, hb⟩ => ⟨_, he, Row.nil _ _, hb⟩
end Go.Proofs.YthklnfanbegecacDoor
