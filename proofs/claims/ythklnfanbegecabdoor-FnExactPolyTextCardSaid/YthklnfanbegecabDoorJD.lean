/- PolyText, of the program and of the model, by contracts; the walk of its law. -/
import Derived.Test.YthklnfanbegecabDoorJC
import Derived.Test.YthklnfanbegecabDoorSH
import Derived.Test.YthklnfanbegecabDoorHK
namespace Go.Proofs.YthklnfanbegecabDoor
open Go.RowKit
theorem itoaB (x : Int) (h0 : 0 ≤ x) (h1 : x < 100) (w : World) : Calls Tryd.prog 21 #[.int .i64 x] w fun e w' => e = .returned (.string (bs (num x))) ∧ Below w.heap.size w w' := by
  obtain ⟨i, rfl⟩ := Int.eq_ofNat_of_zero_le h0
  refine (Tryd.strconv_Itoa_small i (by omega) w).mono fun e w' ⟨he, hw⟩ => ⟨?_, ?_⟩
  · rw [he]
    rfl
  · rw [hw]
    exact Below.refl _ _
theorem bs_back (l : List UInt8) : (bs l).data.toList = l := by simp [bs]
theorem joinB (f : Nat → Int) (n : Nat) : (⟨(Lib.join (((List.range n).map fun i => bs (num (f i))).map (·.data.toList)) (⟨#[44]⟩ : ByteArray).data.toList).toArray⟩ : ByteArray) = txtB f n := by
  have e : ((List.range n).map fun i => bs (num (f i))).map (·.data.toList) = (List.range n).map fun i => num (f i) := by
    rw [List.map_map]
    exact List.map_congr_left fun i _ => bs_back _
  rw [e]
  show bs (Lib.join ((List.range n).map fun i => num (f i)) [44]) = bs (txt f n)
  rw [txt_join]
set_option maxHeartbeats 2000000 in
/-- strings.Join of the texts of n numbers. -/
theorem joinE (g n : Nat) (f : Nat → Int) (w : World) (hg : g < w.heap.size) (hs : Strs w g (fun i => bs (num (f i))) n) (hf : ∀ i, i < n → 0 ≤ f i ∧ f i < 100) (hn : n ≤ 50) :
    Calls Tryd.prog 19 #[.slice (some ⟨g, 0, none⟩) n n, .string ⟨#[44]⟩] w fun e w' => e = .returned (.string (txtB f n)) ∧ Below w.heap.size w w' := by
  have hx : ((List.range n).map fun i => bs (num (f i))).length = n := by simp
  have hj := joinB f n
  have h := Tryd.strings_Join g 0 n ((List.range n).map fun i => bs (num (f i))) ⟨#[44]⟩ w (fun j x hjx => by
      rw [List.getElem?_map] at hjx
      obtain ⟨k, hk, rfl⟩ := Option.map_eq_some_iff.1 hjx
      obtain ⟨h1, h2⟩ := List.getElem?_eq_some_iff.1 hk
      rw [List.length_range] at h1
      rw [List.getElem_range] at h2
      subst h2
      rw [Nat.zero_add]
      exact hs j h1) hg (by rw [hx]; omega) (by rw [hx]; exact Nat.le_refl _) (by
      have e : ((List.range n).map fun i => bs (num (f i))).map (·.data.toList) = (List.range n).map fun i => num (f i) := by
        rw [List.map_map]
        exact List.map_congr_left fun i _ => bs_back _
      rw [e]
      show (Lib.join ((List.range n).map fun i => num (f i)) [44]).length ≤ _
      rw [txt_join]
      have := txt_len f n hf
      omega)
  rw [hx, hj] at h
  exact h
set_option maxHeartbeats 2000000 in
/-- impl.listText. -/
theorem listText_any (v : Value) (l : List Int) (w : World) (hv : Sl w v l) (hl : l.length ≤ 50) (hf : ∀ i, i < l.length → 0 ≤ l.getD i 0 ∧ l.getD i 0 < 100) :
    Calls Tryd.prog 11 #[v] w fun e w' => e = .returned (.string (if l.length = 0 then ⟨#[45]⟩ else txtB (fun i => l.getD i 0) l.length)) ∧ Below w.heap.size w w' := by
  by_cases h0 : l.length = 0
  · rw [if_pos h0]
    obtain ⟨a, cap, rfl⟩ := hv.form
    rw [h0]
    clear hv hf hl
    go_enter Tryd.func11, Tryd.ntmps11
    go_wp2
    go_ret
    exact ⟨rfl, Below.refl _ _⟩
  · rw [if_neg h0]
    have HM := Lib.hid (mappedIS v l (fun i => bs (num (l.getD i 0))) w hv (by omega) (fun i hi w' => itoaB _ (hf i hi).1 (hf i hi).2 w'))
    have HJ := Lib.hid (fun g w' (hg : g < w'.heap.size) (hs : Strs w' g (fun i => bs (num (l.getD i 0))) l.length) => joinE g l.length (fun i => l.getD i 0) w' hg hs hf hl)
    obtain ⟨a, cap, rfl⟩ := hv.form
    have hne : ¬ (l.length : Int) = 0 := by omega
    have hne' : ((l.length : Int) == 0) = false := by simpa using hne
    clear hv hf
    generalize txtB (fun i => l.getD i 0) l.length = S at *
    generalize (fun i => bs (num (l.getD i 0))) = f at *
    generalize l.length = n at *
    go_enter Tryd.func11, Tryd.ntmps11
    go_wp2_with fail
    refine HM.out.mono ?_
    rintro e w1 ⟨g, rfl, hg, hk, hs, hb1⟩
    have hgl := hk.lt
    have HS := Lib.hid hs; clear hs hk
    have HB1 := Lib.hid hb1; clear hb1
    go_wp2_with fail
    refine (HJ.out g _ hgl HS.out).mono ?_
    rintro e w2 ⟨rfl, hb2⟩
    have HB2 := Lib.hid hb2; clear hb2
    go_wp2
    go_ret
    have hb1 := HB1.out
    have hb2 := HB2.out
    exact ⟨rfl, hb1.trans (hb2.mono hb1.size)⟩
theorem good_nums {q : Int} {l : List Int} (h : isSz q = true) (hg : good q l = true) : ∀ i, i < l.length → 0 ≤ l.getD i 0 ∧ l.getD i 0 < 100 := fun i hi => by
  have hq := isSz_le q h
  have hx := List.all_eq_true.1 (good_parts hg).2 (l.getD i 0) (by rw [show l.getD i 0 = l[i] by simp [List.getD, hi]]; exact List.getElem_mem hi)
  simp only [inF, Bool.and_eq_true, decide_eq_true_eq] at hx
  omega
theorem slTell {w : World} {v : Value} {l : List Int} (h : Sl w v l) : Sl w v (fl (fun i => l.getD i 0) l.length) := by rw [← fl_of]; exact h
theorem spec_PolyText_no (q : Int) (v : Value) (l : List Int) (w : World) (hv : Sl w v l) (hl : l.length ≤ 1048576) (hg : (isSz q && good q l) = false) :
    Calls Tryd.prog 4 #[.int .i64 q, v] w fun e w' => e = .returned (.tuple #[.string ⟨#[]⟩, .bool false]) ∧ Below w.heap.size w w' := by
  have hp := plGood_any q v l w hv hl
  rw [hg] at hp
  have HP := Lib.hid hp
  clear hp hg hv hl
  go_enter Tryd.func4, Tryd.ntmps4
  go_wp2_with fail
  refine HP.out.mono ?_
  rintro e w1 ⟨rfl, hb1⟩
  go_wp2
  go_ret2
  exact ⟨rfl, hb1⟩
theorem impl_PolyText_no (q : Int) (v : Value) (l : List Int) (w : World) (hv : Sl w v l) (hl : l.length ≤ 1048576) (hg : (isSz q && good q l) = false) :
    Calls Tryd.prog 6 #[.int .i64 q, v] w fun e w' => e = .returned (.tuple #[.string ⟨#[]⟩, .bool false]) ∧ Below w.heap.size w w' := by
  have HP := Lib.hid (validPoly_no q v l w hv hl hg)
  clear hg hv hl
  go_enter Tryd.func6, Tryd.ntmps6
  go_wp2_with fail
  refine HP.out.mono ?_
  rintro e w1 ⟨rfl, hb1⟩
  have hz_hb1 := hb1.size; (try simp at hz_hb1)
  have HB1 := Lib.hid hb1; clear hb1
  go_wp2_with fail
  go_ret2
  have hb1 := HB1.out
  exact ⟨rfl, by (repeat' (first | (with_reducible assumption) | (with_reducible exact Below.refl _ _) | (with_reducible refine below_drewN ?_ _) | (with_reducible refine Below.drew ?_) | (with_reducible refine Below.alloc ?_ ?_ _) | (with_reducible refine Below.setCell ?_ ?_ _) | (with_reducible refine Below.trans ?_ (Below.mono (by assumption) ?_)) | (with_reducible exact Nat.le_refl _) | (with_reducible assumption) | omega | (simp; omega) | (simp; done)))⟩
theorem spec_PolyText_yes (q : Int) (v : Value) (l : List Int) (w : World) (h : isSz q = true) (hv : Sl w v l) (hg : good q l = true) :
    Calls Tryd.prog 4 #[.int .i64 q, v] w fun e w' => e = .returned (.tuple #[.string (if l.length = 0 then ⟨#[45]⟩ else txtB (fun i => l.getD i 0) l.length), .bool true]) ∧ Below w.heap.size w w' := by
  have hq := isSz_le q h
  have hlen := (good_parts hg).1
  have hp := plGood_any q v l w hv (by omega)
  rw [h, hg] at hp
  have HP := Lib.hid hp
  have HT := Lib.hid (fun w' (hb : Below w.heap.size w w') => plText_any v (fun i => l.getD i 0) l.length w' (slTell (hv.below hb (Nat.le_refl _))) (good_nums h hg) (by omega))
  clear hp hg hv h
  generalize (if l.length = 0 then (⟨#[45]⟩ : ByteArray) else txtB (fun i => l.getD i 0) l.length) = S at *
  go_enter Tryd.func4, Tryd.ntmps4
  go_wp2_with fail
  refine HP.out.mono ?_
  rintro e w1 ⟨rfl, hb1⟩
  have HB1 := Lib.hid hb1; clear hb1
  go_wp2_with fail
  refine (HT.out _ HB1.out).mono ?_
  rintro e w2 ⟨rfl, hb2⟩
  have HB2 := Lib.hid hb2; clear hb2
  go_wp2
  go_ret2
  exact ⟨rfl, HB1.out.trans (HB2.out.mono HB1.out.size)⟩
theorem impl_PolyText_yes (q : Int) (v : Value) (l : List Int) (w : World) (h : isSz q = true) (hv : Sl w v l) (hg : good q l = true) :
    Calls Tryd.prog 6 #[.int .i64 q, v] w fun e w' => e = .returned (.tuple #[.string (if l.length = 0 then ⟨#[45]⟩ else txtB (fun i => l.getD i 0) l.length), .bool true]) ∧ Below w.heap.size w w' := by
  have hq := isSz_le q h
  have hlen := (good_parts hg).1
  have HP := Lib.hid (validPoly_yes q v l w h hv hg)
  have HT := Lib.hid (fun w' (hb : Below w.heap.size w w') => listText_any v l w' (hv.below hb (Nat.le_refl _)) (by omega) (good_nums h hg))
  clear hg hv h
  generalize (if l.length = 0 then (⟨#[45]⟩ : ByteArray) else txtB (fun i => l.getD i 0) l.length) = S at *
  go_enter Tryd.func6, Tryd.ntmps6
  go_wp2_with fail
  refine HP.out.mono ?_
  rintro e w1 ⟨g, rfl, _, _, _, hb1⟩
  have hz_hb1 := hb1.size; (try simp at hz_hb1)
  have HB1 := Lib.hid hb1; clear hb1
  go_wp2_with fail
  refine (HT.out _ (by have hb1 := HB1.out; (repeat' (first | (with_reducible assumption) | (with_reducible exact Below.refl _ _) | (with_reducible refine below_drewN ?_ _) | (with_reducible refine Below.drew ?_) | (with_reducible refine Below.alloc ?_ ?_ _) | (with_reducible refine Below.setCell ?_ ?_ _) | (with_reducible refine Below.trans ?_ (Below.mono (by assumption) ?_)) | (with_reducible exact Nat.le_refl _) | (with_reducible assumption) | omega | (simp; omega) | (simp; done))))).mono ?_
  rintro e w2 ⟨rfl, hb2⟩
  have HB2 := Lib.hid hb2; clear hb2
  go_wp2
  go_ret2
  have hb1 := HB1.out
  have hb2 := HB2.out
  exact ⟨rfl, by (repeat' (first | (with_reducible assumption) | (with_reducible exact Below.refl _ _) | (with_reducible refine below_drewN ?_ _) | (with_reducible refine Below.drew ?_) | (with_reducible refine Below.alloc ?_ ?_ _) | (with_reducible refine Below.setCell ?_ ?_ _) | (with_reducible refine Below.trans ?_ (Below.mono (by assumption) ?_)) | (with_reducible exact Nat.le_refl _) | (with_reducible assumption) | omega | (simp; omega) | (simp; done)))⟩

theorem key_PolyText (q : Int) (l_f : List Int) (b_f : l_f.length ≤ 1048576) : ∃ (r : ByteArray) (o : Bool), (∀ (w : World) (v_f : Value) (_ : Sl w v_f l_f), Calls Tryd.prog 4 #[.int .i64 q, v_f] w fun e w' => e = .returned (.tuple #[.string r, .bool o]) ∧ Below w.heap.size w w') ∧
      (∀ (w : World) (v_f : Value) (_ : Sl w v_f l_f), Calls Tryd.prog 6 #[.int .i64 q, v_f] w fun e w' => e = .returned (.tuple #[.string r, .bool o]) ∧ Below w.heap.size w w') := by
  cases h : isSz q && good q l_f with
  | false => exact ⟨_, _, fun w v hv => spec_PolyText_no q v l_f w hv b_f h, fun w v hv => impl_PolyText_no q v l_f w hv b_f h⟩
  | true =>
    simp only [Bool.and_eq_true] at h
    exact ⟨_, _, fun w v hv => spec_PolyText_yes q v l_f w h.1 hv h.2, fun w v hv => impl_PolyText_yes q v l_f w h.1 hv h.2⟩
set_option maxRecDepth 100000 in
set_option maxHeartbeats 4000000 in
/-- laws.FnExactPolyText. -/
theorem walk_FnExactPolyText (q : Int) (a_f : Option Addr) (n_f c_f : Nat) (z_f : List Int) (w : World) (_h_q : (Lit.int .i64 q).wf = true) (h_f : IsRow .i64 w a_f n_f c_f z_f) :
    Calls Tryd.prog 3 #[.int .i64 q, .slice a_f n_f c_f] w fun e w' => e = .returned (.bool true) ∧ Below w.heap.size w w' := by
  clear _h_q
  obtain ⟨hs_f, hl_f, _⟩ := h_f.sl
  generalize z_f.take n_f = l_f at *
  clear h_f
  subst hl_f
  by_cases b_f : l_f.length ≤ 1048576
  rotate_left
  · have hn_f : (1048576 : Int) < (l_f.length : Int) := by omega
    go_enter Tryd.func3, Tryd.ntmps3
    go_wp2
    go_ret
    exact ⟨rfl, Below.refl _ _⟩
  have hn_f : ¬ (1048576 : Int) < (l_f.length : Int) := by omega
  obtain ⟨r, o, k1, k2⟩ := key_PolyText q l_f b_f
  have K1 := Lib.hid k1; clear k1
  have K2 := Lib.hid k2; clear k2
  have HS_f := Lib.hid hs_f; clear hs_f
  have HB0 : Hid (Below w.heap.size w w) := Lib.hid (Below.refl _ _)
  go_enter Tryd.func3, Tryd.ntmps3
  go_wp2_with fail
  refine (toIntS_any _ l_f _ (HS_f.out.below HB0.out (Nat.le_refl _)) b_f).mono ?_
  rintro e w1 ⟨v_s_f, rfl, hrw1, hbw1⟩
  have hzw1 : w.heap.size ≤ w1.heap.size := hbw1.size
  have HBw1 : Hid (Below w.heap.size w w1) := Lib.hid (HB0.out.trans (hbw1.mono HB0.out.size))
  have hww1 := HBw1.out.size
  clear hbw1 HB0
  have R_s_f_w1 := Lib.hid hrw1; clear hrw1
  have lt_s_f : Hid (∀ g, v_s_f.ownBlock = some g → w.heap.size ≤ g ∧ g < w1.heap.size) := Lib.hid R_s_f_w1.out.lt
  go_wp2_with fail
  refine (K1.out _ v_s_f R_s_f_w1.out.sl).mono ?_
  rintro e w2 ⟨rfl, hbw2⟩
  have hzw2 : w1.heap.size ≤ w2.heap.size := hbw2.size
  have R_s_f_w2 := Lib.hid (R_s_f_w1.out.below hbw2)
  clear R_s_f_w1
  have HBw2 : Hid (Below w.heap.size w w2) := Lib.hid (HBw1.out.trans (hbw2.mono HBw1.out.size))
  have hww2 := HBw2.out.size
  clear hbw2 HBw1
  clear R_s_f_w2 lt_s_f
  go_wp2_with fail
  refine (toIntS_any _ l_f _ (HS_f.out.below HBw2.out (Nat.le_refl _)) b_f).mono ?_
  rintro e w3 ⟨v_x_f, rfl, hrw3, hbw3⟩
  have hzw3 : w2.heap.size ≤ w3.heap.size := hbw3.size
  have HBw3 : Hid (Below w.heap.size w w3) := Lib.hid (HBw2.out.trans (hbw3.mono HBw2.out.size))
  have hww3 := HBw3.out.size
  clear hbw3 HBw2
  have R_x_f_w3 := Lib.hid hrw3; clear hrw3
  have lt_x_f : Hid (∀ g, v_x_f.ownBlock = some g → w2.heap.size ≤ g ∧ g < w3.heap.size) := Lib.hid R_x_f_w3.out.lt
  go_wp2_with fail
  refine (K2.out _ v_x_f R_x_f_w3.out.sl).mono ?_
  rintro e w4 ⟨rfl, hbw4⟩
  have hzw4 : w3.heap.size ≤ w4.heap.size := hbw4.size
  have R_x_f_w4 := Lib.hid (R_x_f_w3.out.below hbw4)
  clear R_x_f_w3
  have HBw4 : Hid (Below w.heap.size w w4) := Lib.hid (HBw3.out.trans (hbw4.mono HBw3.out.size))
  have hww4 := HBw4.out.size
  clear hbw4 HBw3
  go_wp2_with fail
  refine (toIntS_any _ l_f _ (HS_f.out.below HBw4.out (Nat.le_refl _)) b_f).mono ?_
  rintro e w5 ⟨v_y_f, rfl, hrw5, hbw5⟩
  have hzw5 : w4.heap.size ≤ w5.heap.size := hbw5.size
  have R_x_f_w5 := Lib.hid (R_x_f_w4.out.below hbw5)
  clear R_x_f_w4
  have HBw5 : Hid (Below w.heap.size w w5) := Lib.hid (HBw4.out.trans (hbw5.mono HBw4.out.size))
  have hww5 := HBw5.out.size
  clear hbw5 HBw4
  have R_y_f_w5 := Lib.hid hrw5; clear hrw5
  have lt_y_f : Hid (∀ g, v_y_f.ownBlock = some g → w4.heap.size ≤ g ∧ g < w5.heap.size) := Lib.hid R_y_f_w5.out.lt
  go_wp2_with fail
  refine (eq_same v_x_f v_y_f l_f _ _ _ R_x_f_w5.out R_y_f_w5.out (by omega)).mono ?_
  rintro e w6 ⟨rfl, hbw6⟩
  have hzw6 : w5.heap.size ≤ w6.heap.size := hbw6.size
  have R_x_f_w6 := Lib.hid (R_x_f_w5.out.below hbw6)
  clear R_x_f_w5
  have R_y_f_w6 := Lib.hid (R_y_f_w5.out.below hbw6)
  clear R_y_f_w5
  have HBw6 : Hid (Below w.heap.size w w6) := Lib.hid (HBw5.out.trans (hbw6.mono HBw5.out.size))
  have hww6 := HBw6.out.size
  clear hbw6 HBw5
  clear R_y_f_w6 lt_y_f
  go_wp2
  go_ret
  exact ⟨rfl, HBw6.out⟩
end Go.Proofs.YthklnfanbegecabDoor
