/- Polynomials read back, of the model: spec.plParse and ParsePoly by contracts. -/
import Derived.Test.YthklnfanbegecacDoorJG
import Derived.Test.YthklnfanbegecacDoorJD
namespace Go.Proofs.YthklnfanbegecacDoor
open Go.RowKit
/-- What the model reads of a text. -/
def rds (l : List UInt8) : List Int := (spl l).map rd
theorem rds_len (l : List UInt8) : (rds l).length = (spl l).length := by simp [rds]
theorem rds_pos (l : List UInt8) : 0 < (rds l).length := by rw [rds_len]; exact spl_len l
/-- It is a polynomial whose text this is. -/
def okP (q : Int) (l : List UInt8) : Bool := (isSz q && good q (rds l)) && decide (txt (fun i => (rds l).getD i 0) (rds l).length = l)
theorem okP_long (q : Int) (l : List UInt8) (h : 16 < (spl l).length) : okP q l = false := by
  cases h1 : isSz q && good q (rds l) with
  | false => simp [okP, h1]
  | true =>
    simp only [Bool.and_eq_true] at h1
    have hq := isSz_le q h1.1
    have := (good_parts h1.2).1
    rw [rds_len] at this
    omega
theorem okP_bad (q : Int) (l : List UInt8) (h : (isSz q && good q (rds l)) = false) : okP q l = false := by simp [okP, h]
theorem okP_txt (q : Int) (l : List UInt8) (h : (isSz q && good q (rds l)) = true) : okP q l = decide (txtB (fun i => (rds l).getD i 0) (rds l).length = bt l) := by
  unfold okP
  rw [h, Bool.true_and]
  apply decide_eq_decide.2
  constructor
  · intro e
    show bs _ = bt l
    rw [e]
    rfl
  · intro e
    have := congrArg (fun b : ByteArray => b.data.toList) e
    simpa [txtB, bs, bt] using this
set_option maxRecDepth 100000 in
set_option maxHeartbeats 4000000 in
theorem plParse_dash (q : Int) (w : World) :
    Calls Tryd.prog 9 #[.int .i64 q, .string ⟨#[45]⟩] w fun e w' => e = .returned (.tuple #[.slice none 0 0, .bool (isSz q)]) ∧ Below w.heap.size w w' := by
  go_enter Tryd.func9, Tryd.ntmps9
  go_wp2_with fail
  refine (fdSize_any _ _).mono ?_
  rintro e w1 ⟨rfl, hb1⟩
  go_wp2
  go_ret2
  exact ⟨rfl, hb1⟩
theorem spl_word (l : List UInt8) (i : Nat) (hi : i < (spl l).length) : ((spl l).getD i []).length ≤ l.length := by
  induction l generalizing i with
  | nil =>
    have : i = 0 := by simp [spl] at hi; omega
    subst this
    simp [spl]
  | cons c r ih =>
    unfold spl at hi ⊢
    split
    · rename_i h
      rw [if_pos h] at hi
      cases i with
      | zero => simp
      | succ i =>
        have := ih i (by simpa using hi)
        simp at this ⊢
        omega
    · rename_i h
      rw [if_neg h] at hi
      have h0 := ih 0 (by have := spl_len r; omega)
      cases hs : spl r with
      | nil => exact absurd hs (spl_ne r)
      | cons x t =>
        rw [hs] at hi h0
        cases i with
        | zero => simp at h0 ⊢; omega
        | succ i =>
          have := ih (i + 1) (by rw [hs]; simpa using hi)
          rw [hs] at this
          simp at this ⊢
          omega
theorem ne_bytes {a b : ByteArray} (h : a ≠ b) : (a.toList == b.toList) = false := by
  apply beq_eq_false_iff_ne.2
  intro e
  rw [Lib.toList_data, Lib.toList_data] at e
  apply h
  apply ByteArray.ext
  exact Array.toList_inj.1 e
theorem bt_list (l : List UInt8) : (bt l).toList = l := by rw [Lib.toList_data]; simp [bt]
set_option maxRecDepth 100000 in
set_option maxHeartbeats 4000000 in
theorem plParse_any (q : Int) (l : List UInt8) (w : World) (hl : l.length ≤ 1048576) (hd : l ≠ [45]) :
    Calls Tryd.prog 9 #[.int .i64 q, .string (bt l)] w fun e w' => ((okP q l = true ∧ ∃ v, e = .returned (.tuple #[v, .bool true]) ∧ Row w' w.heap.size v (rds l)) ∨ (okP q l = false ∧ e = .returned (.tuple #[.slice none 0 0, .bool false]))) ∧ Below w.heap.size w w' := by
  obtain ⟨i0, hi, iz0, iz1, iz2⟩ := info_parts Tryd.infoI
  have HSP := Lib.hid (fun w => l1Split_any l w hl)
  have hd' : ((bt l).toList == [45]) = false := by rw [bt_list]; simpa using hd
  have hwl : ∀ i, i < (spl l).length → ((spl l).getD i []).length ≤ 1048576 := fun i hi => Nat.le_trans (spl_word l i hi) hl
  have HRD := Lib.hid (fun i hi w => l1Read_any ((spl l).getD i []) w (hwl i hi))
  have hpos := spl_len l
  have hnl : (spl l).length ≤ 1048577 := by have := spl_le l; omega
  have HLONG := Lib.hid (okP_long q l)
  have HBAD := Lib.hid (okP_bad q l)
  have HTXT := Lib.hid (okP_txt q l)
  have HGOOD := Lib.hid (fun v w h (h16 : (spl l).length ≤ 16) => plGood_any q v (rds l) w h (by rw [rds_len]; omega))
  have HPT := Lib.hid (fun v w (h : Sl w v (rds l)) (hg : (isSz q && good q (rds l)) = true) => by
    simp only [Bool.and_eq_true] at hg
    have hq := isSz_le q hg.1
    have hlen := (good_parts hg.2).1
    have := plText_any v (fun i => (rds l).getD i 0) (rds l).length w (slTell h) (good_nums hg.1 hg.2) (by omega)
    rw [if_neg (by have := rds_pos l; omega)] at this
    exact this)
  have HTK : Hid (∀ i, i < (spl l).length → ((spl l).take (i + 1)).map rd = ((spl l).take i).map rd ++ [rd ((spl l).getD i [])]) := Lib.hid fun i hi => by
    rw [List.take_add_one, List.getElem?_eq_getElem hi, List.map_append]
    simp [List.getD, hi]
  have HTA : Hid (((spl l).take (spl l).length).map rd = rds l) := Lib.hid (by rw [List.take_length]; rfl)
  have HCL : Hid (∀ w B g cap, RowS w B (.slice (some ⟨g, 0, none⟩) (spl l).length cap) ((spl l).map bt) → ∀ i, i < (spl l).length → w.cell? ⟨g, i, none⟩ = some (.string (bt ((spl l).getD i [])))) := Lib.hid fun w B g cap h i hi => by
    have := RowS.cell (l := (spl l).map bt) (by rw [List.length_map]; exact h) i (by simpa using hi)
    rw [this]
    simp [List.getD, hi]
  generalize bt l = s at *
  go_enter Tryd.func9, Tryd.ntmps9
  go_wp2_with fail
  refine (HSP.out _).mono ?_
  rintro e w1 ⟨v, rfl, hr, hb1⟩
  have hz_hb1 := hb1.size; (try simp at hz_hb1)
  obtain ⟨g, cap, rfl, hg1, hg2⟩ := hr.form (by simp; omega)
  rw [List.length_map] at hr ⊢
  have HB1 := Lib.hid hb1; clear hb1
  have HR1 := Lib.hid hr; clear hr
  generalize hN : (spl l).length = n at *
  go_wp2_with fail
  go_loopw [6, 16] (fun vo vi wr => ∃ i : Nat, i ≤ n ∧ i ≤ 16 ∧ vi = .int .i64 i ∧ Row wr w1.heap.size vo (((spl l).take i).map rd) ∧ Below w1.heap.size w1 wr) (fun _ vi _ => n - (intOf vi).toNat)
  case atStart => exact ⟨0, Nat.zero_le _, Nat.zero_le _, rfl, Row.nil _ _, Below.refl _ _⟩
  case round =>
    obtain ⟨i, hin, hi16, rfl, hrow, hb⟩ := hrel
    have hz := hb.size
    have hlen : (((spl l).take i).map rd).length = i := by simp; omega
    by_cases hlt : i < n
    · have hc := HCL.out _ _ _ _ (HR1.out.below hb) i hlt
      obtain ⟨ao, co, rfl⟩ := hrow.sl.form
      rw [hlen] at hrow ⊢
      have HTK' := Lib.hid (HTK.out i hlt)
      have HRD' := Lib.hid (HRD.out i hlt)
      generalize (spl l).getD i [] = word at *
      generalize hLL : ((spl l).take i).map rd = L at *
      have HR := Lib.hid hrow; clear hrow
      have HB := Lib.hid hb; clear hb
      by_cases h16 : i = 16
      · have hc16 : ((i : Int) == 16) = true := by simp; omega
        have HF := Lib.hid (HLONG.out (by omega))
        clear h16
        go_wp2
        go_ret2
        have hb1 := HB1.out
        have hb2 := HB.out
        exact ⟨.inr ⟨HF.out, rfl⟩, by (repeat' (first | (with_reducible assumption) | (with_reducible exact Below.refl _ _) | (with_reducible refine below_drewN ?_ _) | (with_reducible refine Below.drew ?_) | (with_reducible refine Below.alloc ?_ ?_ _) | (with_reducible refine Below.setCell ?_ ?_ _) | (with_reducible refine Below.trans ?_ (Below.mono (by assumption) ?_)) | (with_reducible exact Nat.le_refl _) | (with_reducible assumption) | omega | (simp; omega) | (simp; done)))⟩
      · have hc16 : ((i : Int) == 16) = false := by simp; omega
        go_wp2_with (first | (go_at_call 16; refine (HRD'.out _).mono ?_; rintro e w2 ⟨rfl, hb2⟩; have HB2 := Lib.hid hb2; have hz2 := hb2.size; have HR2 := Lib.hid (HR.out.below hb2); clear hb2) | (at_builtin; refine wpList_append_own _ rfl _ _ 22 rfl w1.heap.size 3 i0 (.int .i64 0) 1 8 Tryd.underlying22 hi iz0 iz1 iz2 rfl (by decide) _ _ _ rfl (World.ownsRow.alloc HR2.out _) ⟨w2.heap.size, 0, none⟩ 1 1 [.int .i64 (rd word)] rfl rfl ?c1 ?c2 ?c3 ?c4 ?c5 ?_))
        case c1 => exact cell_one_new _ _ _
        case c2 => intro u hu; simp at hu; subst hu; rfl
        case c3 => unfold maxLen; omega
        case c4 => omega
        case c5 => simp; omega
        intro v' w3 hown hgrow _
        have HR3 := Lib.hid (Row.appended (l := L) (by rw [hlen]; exact hown))
        have hb : Below w1.heap.size w1 (w2.alloc (.cells #[.int .i64 (rd word)] 3)) := by have hb1 := HB.out; have hb2 := HB2.out; (repeat' (first | (with_reducible assumption) | (with_reducible exact Below.refl _ _) | (with_reducible refine below_drewN ?_ _) | (with_reducible refine Below.drew ?_) | (with_reducible refine Below.alloc ?_ ?_ _) | (with_reducible refine Below.setCell ?_ ?_ _) | (with_reducible refine Below.trans ?_ (Below.mono (by assumption) ?_)) | (with_reducible exact Nat.le_refl _) | (with_reducible assumption) | omega | (simp; omega) | (simp; done)))
        have HB3 := Lib.hid (hb.grown hgrow (by simp; omega) (fun g hg => (HR2.out.lt g hg).1))
        clear hown hgrow hb
        go_wp2
        go_roundw
        case rel => exact ⟨i + 1, by omega, by omega, by go_num, by rw [HTK'.out]; exact HR3.out, HB3.out⟩
        case measure => simp [intOf]; omega
    · obtain rfl : n = i := by omega
      rw [HTA.out] at hrow
      have hsl := hrow.sl
      have HPT' := Lib.hid (fun w' (hb' : Below wr.heap.size wr w') => HPT.out _ w' (hsl.below hb' (Nat.le_refl _)))
      have hgd := HGOOD.out _ wr hsl hi16
      cases hg : isSz q && good q (rds l) with
      | false =>
        rw [hg] at hgd
        have HF := Lib.hid (HBAD.out hg)
        have HGD := Lib.hid hgd; clear hgd hg
        clear hrow hsl
        have HB := Lib.hid hb; clear hb
        go_wp2_with fail
        refine HGD.out.mono ?_
        rintro e w2 ⟨rfl, hb2⟩
        have HB2 := Lib.hid hb2; clear hb2
        go_wp2
        go_ret2
        have hb1 := HB1.out
        have hb2 := HB.out
        have hb3 := HB2.out
        exact ⟨.inr ⟨HF.out, rfl⟩, by (repeat' (first | (with_reducible assumption) | (with_reducible exact Below.refl _ _) | (with_reducible refine below_drewN ?_ _) | (with_reducible refine Below.drew ?_) | (with_reducible refine Below.alloc ?_ ?_ _) | (with_reducible refine Below.setCell ?_ ?_ _) | (with_reducible refine Below.trans ?_ (Below.mono (by assumption) ?_)) | (with_reducible exact Nat.le_refl _) | (with_reducible assumption) | omega | (simp; omega) | (simp; done)))⟩
      | true =>
        rw [hg] at hgd
        have HGD := Lib.hid hgd; clear hgd
        have HPT2 := Lib.hid (fun w' hb' => HPT'.out w' hb' hg)
        have hok := HTXT.out hg
        clear hg hsl
        have HR := Lib.hid hrow; clear hrow
        have HB := Lib.hid hb; clear hb
        clear HPT HTXT HPT'
        generalize txtB (fun i => (rds l).getD i 0) (rds l).length = T at *
        by_cases he : T = s
        · subst he
          have HF := Lib.hid (show okP q l = true by rw [hok]; simp)
          clear hok
          go_wp2_with fail
          refine HGD.out.mono ?_
          rintro e w2 ⟨rfl, hb2⟩
          have HP3 := Lib.hid (HPT2.out _ hb2)
          have HR2 := Lib.hid (HR.out.below hb2)
          have hz2 := hb2.size
          have HB2 := Lib.hid hb2; clear hb2
          go_wp2_with fail
          refine HP3.out.mono ?_
          rintro e w3 ⟨rfl, hb3⟩
          have HR3 := Lib.hid (HR2.out.below hb3)
          have HB3 := Lib.hid hb3; clear hb3
          go_wp2
          go_ret2
          have hb1 := HB1.out
          have hb2 := HB.out
          have hb3 := HB2.out
          have hb4 := HB3.out
          exact ⟨.inl ⟨HF.out, _, rfl, HR3.out.mono (by omega)⟩, by (repeat' (first | (with_reducible assumption) | (with_reducible exact Below.refl _ _) | (with_reducible refine below_drewN ?_ _) | (with_reducible refine Below.drew ?_) | (with_reducible refine Below.alloc ?_ ?_ _) | (with_reducible refine Below.setCell ?_ ?_ _) | (with_reducible refine Below.trans ?_ (Below.mono (by assumption) ?_)) | (with_reducible exact Nat.le_refl _) | (with_reducible assumption) | omega | (simp; omega) | (simp; done)))⟩
        · have HF := Lib.hid (show okP q l = false by rw [hok]; simp [he])
          have he' := ne_bytes he
          clear he
          clear hok
          go_wp2_with fail
          refine HGD.out.mono ?_
          rintro e w2 ⟨rfl, hb2⟩
          have HP3 := Lib.hid (HPT2.out _ hb2)
          have hz2 := hb2.size
          have HB2 := Lib.hid hb2; clear hb2
          go_wp2_with fail
          refine HP3.out.mono ?_
          rintro e w3 ⟨rfl, hb3⟩
          have HB3 := Lib.hid hb3; clear hb3
          go_wp2
          go_ret2
          have hb1 := HB1.out
          have hb2 := HB.out
          have hb3 := HB2.out
          have hb4 := HB3.out
          exact ⟨.inr ⟨HF.out, rfl⟩, by (repeat' (first | (with_reducible assumption) | (with_reducible exact Below.refl _ _) | (with_reducible refine below_drewN ?_ _) | (with_reducible refine Below.drew ?_) | (with_reducible refine Below.alloc ?_ ?_ _) | (with_reducible refine Below.setCell ?_ ?_ _) | (with_reducible refine Below.trans ?_ (Below.mono (by assumption) ?_)) | (with_reducible exact Nat.le_refl _) | (with_reducible assumption) | omega | (simp; omega) | (simp; done)))⟩
/-- spec.ParsePoly. -/
theorem spec_ParsePoly_dash (q : Int) (w : World) :
    Calls Tryd.prog 4 #[.int .i64 q, .string ⟨#[45]⟩] w fun e w' => e = .returned (.tuple #[.slice none 0 0, .bool (isSz q)]) ∧ Below w.heap.size w w' := by
  go_enter Tryd.func4, Tryd.ntmps4
  go_wp2_with fail
  refine (plParse_dash _ _).mono ?_
  rintro e w1 ⟨rfl, hb1⟩
  go_wp2
  go_ret2
  exact ⟨rfl, hb1⟩
theorem spec_ParsePoly_yes (q : Int) (l : List UInt8) (w : World) (hl : l.length ≤ 1048576) (hd : l ≠ [45]) (h : okP q l = true) :
    Calls Tryd.prog 4 #[.int .i64 q, .string (bt l)] w fun e w' => ∃ v, e = .returned (.tuple #[v, .bool true]) ∧ Row w' w.heap.size v (rds l) ∧ Below w.heap.size w w' := by
  have HP := Lib.hid (plParse_any q l w hl hd)
  rw [h] at HP
  clear hl hd h
  generalize rds l = L at *
  generalize bt l = s at *
  go_enter Tryd.func4, Tryd.ntmps4
  go_wp2_with fail
  refine HP.out.mono ?_
  rintro e w1 ⟨⟨_, v, rfl, hr⟩ | ⟨h0, _⟩, hb1⟩
  · have HR := Lib.hid hr; clear hr
    have HB := Lib.hid hb1; clear hb1
    go_wp2
    go_ret2
    exact ⟨_, rfl, HR.out, HB.out⟩
  · cases h0
theorem spec_ParsePoly_no (q : Int) (l : List UInt8) (w : World) (hl : l.length ≤ 1048576) (hd : l ≠ [45]) (h : okP q l = false) :
    Calls Tryd.prog 4 #[.int .i64 q, .string (bt l)] w fun e w' => e = .returned (.tuple #[.slice none 0 0, .bool false]) ∧ Below w.heap.size w w' := by
  have HP := Lib.hid (plParse_any q l w hl hd)
  rw [h] at HP
  clear hl hd h
  generalize rds l = L at *
  generalize bt l = s at *
  go_enter Tryd.func4, Tryd.ntmps4
  go_wp2_with fail
  refine HP.out.mono ?_
  rintro e w1 ⟨⟨h0, _⟩ | ⟨_, rfl⟩, hb1⟩
  · cases h0
  · have HB := Lib.hid hb1; clear hb1
    go_wp2
    go_ret2
    exact ⟨rfl, HB.out⟩
end Go.Proofs.YthklnfanbegecacDoor
