/- IsAdditiveTable, of both, by contracts; the walk of its law. -/
import Derived.Test.YtlamclhhocofiabRO
import Derived.Test.YtlamclhhocofiabKI
namespace Go.Proofs.Ytlamclhhocofiab
open Go.RowKit
theorem tabl_two {q : Int} {l : List Int} (h : tabl q l = true) : (l.length : Int) = q ∧ l.all (inF q) = true := by
  simpa [tabl] using h
def okB (m : Nat) (t : Nat → Int) (a b : Nat) : Bool := decide (t (addF m (a : Int) (b : Int)).toNat = addF m (t a) (t b))
theorem spec_IsAdditiveTable_no (q : Int) (v : Value) (l : List Int) (w : World) (hv : Sl w v l) (hl : l.length ≤ 1048576) (hg : (isSz q && tabl q l) = false) :
    Calls Try.prog 19 #[.int .i64 q, v] w fun e w' => e = .returned (.tuple #[.bool false, .bool false]) ∧ Below w.heap.size w w' := by
  have hp := plTable_any q v l w hv hl
  rw [hg] at hp
  have HP := Lib.hid hp
  clear hp hg hv hl
  go_enter Try.func19, Try.ntmps19
  go_wp2_with fail
  refine HP.out.mono ?_
  rintro e w1 ⟨rfl, hb1⟩
  go_wp2
  go_ret2
  exact ⟨rfl, hb1⟩
set_option maxRecDepth 100000 in
set_option maxHeartbeats 8000000 in
theorem spec_IsAdditiveTable_yes (m : Nat) (v : Value) (l : List Int) (w : World) (h : isSz (m : Int) = true) (hv : Sl w v l) (hg : tabl (m : Int) l = true) :
    Calls Try.prog 19 #[.int .i64 m, v] w fun e w' => e = .returned (.tuple #[.bool (adI m (fun i => l.getD i 0)), .bool true]) ∧ Below w.heap.size w w' := by
  have hq := isSz_le (m : Int) h
  have hlen := (tabl_two hg).1
  have hlm : l.length = m := by omega
  have hel := all_el h (tabl_two hg).2
  have hp := plTable_any (m : Int) v l w hv (by omega)
  rw [h, hg] at hp
  have HP := Lib.hid hp
  have HA := Lib.hid (fun w' (hb : Below w.heap.size w w') => adIs_any m v (fun i => l.getD i 0) w' h (by
    have := (hv.below hb (Nat.le_refl _)).tell
    rwa [hlm] at this) (fun i _ => hel i))
  clear hp hg hv hlen h hel
  generalize adI m (fun i => l.getD i 0) = ans at *
  go_enter Try.func19, Try.ntmps19
  go_wp2_with fail
  refine HP.out.mono ?_
  rintro e w1 ⟨rfl, hb1⟩
  have hz1 := hb1.size
  have HB1 := Lib.hid hb1; clear hb1
  go_wp2_with fail
  refine (HA.out _ HB1.out).mono ?_
  rintro e w2 ⟨rfl, hb2⟩
  have HB2 : Hid (Below w.heap.size w w2) := Lib.hid (HB1.out.trans (hb2.mono hz1)); clear hb2
  go_wp2
  go_ret2
  exact ⟨rfl, HB2.out⟩
theorem impl_IsAdditiveTable_no1 (q : Int) (v : Value) (w : World) (h : isSz q = false) :
    Calls Try.prog 20 #[.int .i64 q, v] w fun e w' => e = .returned (.tuple #[.bool false, .bool false]) ∧ Below w.heap.size w w' := by
  have HF := Lib.hid (fun w => fieldOf_no q w h)
  clear h
  go_enter Try.func20, Try.ntmps20
  go_wp2_with fail
  refine (HF.out _).mono ?_
  rintro e w1 ⟨rfl, hb1⟩
  have hz_hb1 := hb1.size; (try simp at hz_hb1)
  have HB1 := Lib.hid hb1; clear hb1
  go_wp2_with fail
  go_ret2
  have hb1 := HB1.out
  exact ⟨rfl, by (repeat' (first | (with_reducible assumption) | (with_reducible exact Below.refl _ _) | (with_reducible refine below_drewN ?_ _) | (with_reducible refine Below.drew ?_) | (with_reducible refine Below.alloc ?_ ?_ _) | (with_reducible refine Below.setCell ?_ ?_ _) | (with_reducible refine Below.trans ?_ (Below.mono (by assumption) ?_)) | (with_reducible exact Nat.le_refl _) | (with_reducible assumption) | omega | (simp; omega) | (simp; done)))⟩
theorem impl_IsAdditiveTable_no2 (q : Int) (v : Value) (l : List Int) (w : World) (h : isSz q = true) (hv : Sl w v l) (hl : l.length ≤ 1048576) (ha : tabl q l = false) :
    Calls Try.prog 20 #[.int .i64 q, v] w fun e w' => e = .returned (.tuple #[.bool false, .bool false]) ∧ Below w.heap.size w w' := by
  have HF := Lib.hid (fun w => fieldOf_yes q w h)
  have HL := Lib.hid (fun w' (hb : Below w.heap.size w w') => by have := isTable_any q v l w' (hv.below hb (Nat.le_refl _)) hl; rw [ha] at this; exact this)
  clear hv hl ha h
  go_enter Try.func20, Try.ntmps20
  go_wp2_with fail
  refine (HF.out _).mono ?_
  rintro e w1 ⟨rfl, hb1⟩
  have hz_hb1 := hb1.size; (try simp at hz_hb1)
  have HB1 := Lib.hid hb1; clear hb1
  go_wp2_with fail
  refine (HL.out _ (by have hb1 := HB1.out; (repeat' (first | (with_reducible assumption) | (with_reducible exact Below.refl _ _) | (with_reducible refine below_drewN ?_ _) | (with_reducible refine Below.drew ?_) | (with_reducible refine Below.alloc ?_ ?_ _) | (with_reducible refine Below.setCell ?_ ?_ _) | (with_reducible refine Below.trans ?_ (Below.mono (by assumption) ?_)) | (with_reducible exact Nat.le_refl _) | (with_reducible assumption) | omega | (simp; omega) | (simp; done))))).mono ?_
  rintro e w2 ⟨rfl, hb2⟩
  have HB2 := Lib.hid hb2; clear hb2
  go_wp2_with fail
  go_ret2
  have hb1 := HB1.out
  have hb2 := HB2.out
  exact ⟨rfl, by (repeat' (first | (with_reducible assumption) | (with_reducible exact Below.refl _ _) | (with_reducible refine below_drewN ?_ _) | (with_reducible refine Below.drew ?_) | (with_reducible refine Below.alloc ?_ ?_ _) | (with_reducible refine Below.setCell ?_ ?_ _) | (with_reducible refine Below.trans ?_ (Below.mono (by assumption) ?_)) | (with_reducible exact Nat.le_refl _) | (with_reducible assumption) | omega | (simp; omega) | (simp; done)))⟩
set_option maxRecDepth 100000 in
set_option maxHeartbeats 8000000 in
theorem impl_IsAdditiveTable_yes (m : Nat) (v : Value) (l : List Int) (w : World) (h : isSz (m : Int) = true) (hv : Sl w v l) (ha : tabl (m : Int) l = true) :
    Calls Try.prog 20 #[.int .i64 m, v] w fun e w' => e = .returned (.tuple #[.bool (adI m (fun i => l.getD i 0)), .bool true]) ∧ Below w.heap.size w w' := by
  have hq := isSz_le (m : Int) h
  have hlm : l.length = m := by have := (tabl_two ha).1; omega
  have hel := all_el h (tabl_two ha).2
  have HF := Lib.hid (fun w => fieldOf_yes (m : Int) w h)
  have HL := Lib.hid (fun w' (hb : Below w.heap.size w w') => by have := isTable_any (m : Int) v l w' (hv.below hb (Nat.le_refl _)) (by omega); rw [ha] at this; exact this)
  have HM := Lib.hid (fun w' (hb : Below w.heap.size w w') => by have := mappedIE (m : Int) v l w' h (hv.below hb (Nat.le_refl _)) (tabl_two ha).2 (by omega); rw [hlm] at this; exact this)
  have HBS := Lib.hid (fun v w' (hs : Se w' v (m : Int) (fun i => l.getD i 0) m) => brokenSumE m v (fun i => l.getD i 0) w' h hs)
  have HOK : ∀ a b, a < m → b < m → ∃ s : Nat, s < m ∧ addF m (a : Int) (b : Int) = s := fun x y hx hy => by
    have h1 := (El.nat hx).add h (El.nat hy)
    obtain ⟨s, hs⟩ := Int.eq_ofNat_of_zero_le h1.1
    exact ⟨s, by have := h1.2; omega, hs⟩
  have HSU := Lib.hid (fun gE capE A V gV capV w' (hkE : Blk w' gE m) (hE : Els w' gE (m : Int) (fun j => (j : Int)) m) (hA : w'.cell? ⟨A, 0, none⟩ = some (.func (.func 83) #[] #[.pointer (some ⟨V, 0, none⟩)])) (hV : w'.cell? ⟨V, 0, none⟩ = some (.slice (some ⟨gV, 0, none⟩) m capV)) (hgV : gV < w'.heap.size) (heV : Els w' gV (m : Int) (fun i => l.getD i 0) m) =>
    succeedsE m gE capE A (okB m (fun i => l.getD i 0)) (adI m (fun i => l.getD i 0)) w' (by omega) hkE.lt hE (fun a b hxa hxb w'' hb => by
      have lA := World.block_lt_of_cell? w' _ hA
      have lV := World.block_lt_of_cell? w' _ hV
      simp only at lA lV
      obtain ⟨s, hs, hab⟩ := HOK a b hxa hxb
      have hr := bsFinds m gV capV A V a b s (fun i => l.getD i 0) w'' h hxa hxb hs hab (fun i _ => hel i) ((hb.cell (p := ⟨A, 0, none⟩) lA).trans hA) ((hb.cell (p := ⟨V, 0, none⟩) lV).trans hV) (by have := hb.size; omega) (heV.below hb hgV)
      have e : okB m (fun i => l.getD i 0) a b = decide ((fun i => l.getD i 0) s = addF m ((fun i => l.getD i 0) a) ((fun i => l.getD i 0) b)) := by unfold okB; rw [hab, Int.toNat_natCast]
      rw [e]
      exact hr) (fun hh => adI_of fun x y hx hy => of_decide_eq_true (hh x hx y hy)) (fun a b hxa hxb hh => adI_no hxa hxb (show ¬ ((fun i => l.getD i 0) (addF m (a : Int) (b : Int)).toNat = addF m ((fun i => l.getD i 0) a) ((fun i => l.getD i 0) b)) from of_decide_eq_false hh)))
  obtain ⟨a, cap, rfl⟩ := hv.form
  clear hv ha h hel HOK
  rw [hlm] at *
  clear hlm
  generalize adI m (fun i => l.getD i 0) = ans at *
  generalize (fun i => l.getD i 0) = c at *
  cases ans
  all_goals
    go_enter Try.func20, Try.ntmps20
    go_wp2_with fail
    refine (HF.out _).mono ?_
    rintro e w1 ⟨rfl, hb1⟩
    have hz1 := hb1.size
    have hbw1 : Below w.heap.size w (w1.alloc (ffblk (m : Int))) := by (repeat' (first | (with_reducible assumption) | (with_reducible exact Below.refl _ _) | (with_reducible refine below_drewN ?_ _) | (with_reducible refine Below.drew ?_) | (with_reducible refine Below.alloc ?_ ?_ _) | (with_reducible refine Below.setCell ?_ ?_ _) | (with_reducible refine Below.trans ?_ (Below.mono (by assumption) ?_)) | (with_reducible exact Nat.le_refl _) | (with_reducible assumption) | omega | (simp; omega) | (simp; done)))
    clear hb1
    go_wp2_with fail
    refine (HL.out _ hbw1).mono ?_
    rintro e w2 ⟨rfl, hb2⟩
    have hfb : w2.heap[w1.heap.size]? = some (ffblk (m : Int)) := (hb2.block _ (by simp)).trans (heap_alloc_new w1 _)
    have hbw2 : Below w.heap.size w w2 := hbw1.trans (hb2.mono hbw1.size)
    clear hbw1 hb2
    obtain ⟨f0, f1, f2, ff, fl0⟩ := cells3' hfb
    have HKEEP : Hid (∀ w', Below w2.heap.size w2 w' → w'.cell? ⟨w1.heap.size, 0, none⟩ = some (.int .i64 m) ∧ w'.cell? ⟨w1.heap.size, 1, none⟩ = some (.int .i64 (pr m)) ∧ w'.cell? ⟨w1.heap.size, 2, none⟩ = some (.int .i64 (pl m))) := Lib.hid fun w' hb => by
      obtain ⟨x0, x1, x2, _⟩ := cells3' ((hb.block _ fl0).trans hfb)
      exact ⟨x0, x1, x2⟩
    clear hfb
    go_wp2_with fail
    go_region_held3 (fun w' => w'.cell? ⟨w1.heap.size, 0, none⟩ = some (.int .i64 m) ∧ w'.cell? ⟨w1.heap.size, 1, none⟩ = some (.int .i64 (pr m)) ∧ w'.cell? ⟨w1.heap.size, 2, none⟩ = some (.int .i64 (pl m)))
      (exact HKEEP.out _ (by (try have hb3 := HB3.out); (try have hb4 := HB4.out); (try have hb5 := HB5.out); (repeat' (first | (with_reducible assumption) | (with_reducible exact Below.refl _ _) | (with_reducible refine below_drewN ?_ _) | (with_reducible refine Below.drew ?_) | (with_reducible refine Below.alloc ?_ ?_ _) | (with_reducible refine Below.setCell ?_ ?_ _) | (with_reducible refine Below.trans ?_ (Below.mono (by assumption) ?_)) | (with_reducible exact Nat.le_refl _) | (with_reducible assumption) | omega | (simp; omega) | (simp; done)))))
      (first
      | (go_at_call 48; refine (HM.out _ (by (repeat' (first | (with_reducible assumption) | (with_reducible exact Below.refl _ _) | (with_reducible refine below_drewN ?_ _) | (with_reducible refine Below.drew ?_) | (with_reducible refine Below.alloc ?_ ?_ _) | (with_reducible refine Below.setCell ?_ ?_ _) | (with_reducible refine Below.trans ?_ (Below.mono (by assumption) ?_)) | (with_reducible exact Nat.le_refl _) | (with_reducible assumption) | omega | (simp; omega) | (simp; done))))).mono ?_; rintro e w3 ⟨g3, rfl, hg3, hk3, he3, hb3⟩; have HSE3 : Hid (Se w3 (.slice (some ⟨g3, 0, none⟩) m m) (m : Int) c m) := Lib.hid ⟨g3, _, rfl, hk3.lt, he3⟩; clear hk3 he3; have hz3 := hb3.size; (try simp at hz3); have HB3 := Lib.hid hb3; clear hb3)
      | (go_at_call 47; refine (HBS.out _ _ HSE3.out).mono ?_; rintro e w4 ⟨gE, capE, A, V, gV, capV, rfl, hkE, hE, hA, hV, hgV, heV, hb4⟩; have HS4 := Lib.hid (HSU.out gE capE A V gV capV w4 hkE hE hA hV hgV heV); clear hkE hE hA hV heV; have hz4 := hb4.size; (try simp at hz4); have HB4 := Lib.hid hb4; clear hb4)
      | (go_at_call 50; refine HS4.out.mono ?_; rintro e w5 ⟨rfl, hb5⟩; have hz5 := hb5.size; (try simp at hz5); have HB5 := Lib.hid hb5; clear hb5))
    all_goals
      go_wp2
      go_ret2
      have hb3 := HB3.out
      have hb4 := HB4.out
      have hb5 := HB5.out
      exact ⟨by first | rfl | simp, by (repeat' (first | (with_reducible assumption) | (with_reducible exact Below.refl _ _) | (with_reducible refine below_drewN ?_ _) | (with_reducible refine Below.drew ?_) | (with_reducible refine Below.alloc ?_ ?_ _) | (with_reducible refine Below.setCell ?_ ?_ _) | (with_reducible refine Below.trans ?_ (Below.mono (by assumption) ?_)) | (with_reducible exact Nat.le_refl _) | (with_reducible assumption) | omega | (simp; omega) | (simp; done)))⟩
theorem key_IsAdditiveTable (q : Int) (l_t : List Int) (b_t : l_t.length ≤ 1048576) : ∃ (r : Bool) (o : Bool), (∀ (w : World) (v_t : Value) (_ : Sl w v_t l_t), Calls Try.prog 19 #[.int .i64 q, v_t] w fun e w' => e = .returned (.tuple #[.bool r, .bool o]) ∧ Below w.heap.size w w') ∧
      (∀ (w : World) (v_t : Value) (_ : Sl w v_t l_t), Calls Try.prog 20 #[.int .i64 q, v_t] w fun e w' => e = .returned (.tuple #[.bool r, .bool o]) ∧ Below w.heap.size w w') := by
  cases h : isSz q with
  | false => exact ⟨false, false, fun w v hv => spec_IsAdditiveTable_no q v l_t w hv b_t (by rw [h]; rfl), fun w v hv => impl_IsAdditiveTable_no1 q v w h⟩
  | true =>
    have hq := isSz_le q h
    obtain ⟨m, rfl⟩ := Int.eq_ofNat_of_zero_le (show 0 ≤ q by omega)
    cases ha : tabl (m : Int) l_t with
    | false => exact ⟨false, false, fun w v hv => spec_IsAdditiveTable_no m v l_t w hv b_t (by rw [ha, Bool.and_false]), fun w v hv => impl_IsAdditiveTable_no2 m v l_t w h hv b_t ha⟩
    | true => exact ⟨_, true, fun w v hv => spec_IsAdditiveTable_yes m v l_t w h hv ha, fun w v hv => impl_IsAdditiveTable_yes m v l_t w h hv ha⟩
set_option maxRecDepth 100000 in
set_option maxHeartbeats 4000000 in
/-- laws.FnExactIsAdditiveTable. -/
theorem walk_FnExactIsAdditiveTable (q : Int) (a_t : Option Addr) (n_t c_t : Nat) (z_t : List Int) (w : World) (_h_q : (Lit.int .i64 q).wf = true) (h_t : IsRow .i64 w a_t n_t c_t z_t) :
    Calls Try.prog 5 #[.int .i64 q, .slice a_t n_t c_t] w fun e w' => e = .returned (.bool true) ∧ Below w.heap.size w w' := by
  clear _h_q
  obtain ⟨hs_t, hl_t, _⟩ := h_t.sl
  generalize z_t.take n_t = l_t at *
  clear h_t
  subst hl_t
  by_cases b_t : l_t.length ≤ 1048576
  rotate_left
  · have hn_t : (1048576 : Int) < (l_t.length : Int) := by omega
    go_enter Try.func5, Try.ntmps5
    go_wp2
    go_ret
    exact ⟨rfl, Below.refl _ _⟩
  have hn_t : ¬ (1048576 : Int) < (l_t.length : Int) := by omega
  obtain ⟨r, o, k1, k2⟩ := key_IsAdditiveTable q l_t b_t
  have K1 := Lib.hid k1; clear k1
  have K2 := Lib.hid k2; clear k2
  have HS_t := Lib.hid hs_t; clear hs_t
  have HB0 : Hid (Below w.heap.size w w) := Lib.hid (Below.refl _ _)
  go_enter Try.func5, Try.ntmps5
  go_wp2_with fail
  refine (toIntS_any _ l_t _ (HS_t.out.below HB0.out (Nat.le_refl _)) b_t).mono ?_
  rintro e w1 ⟨v_s_t, rfl, hrw1, hbw1⟩
  have hzw1 : w.heap.size ≤ w1.heap.size := hbw1.size
  have HBw1 : Hid (Below w.heap.size w w1) := Lib.hid (HB0.out.trans (hbw1.mono HB0.out.size))
  have hww1 := HBw1.out.size
  clear hbw1 HB0
  have R_s_t_w1 := Lib.hid hrw1; clear hrw1
  have lt_s_t : Hid (∀ g, v_s_t.ownBlock = some g → w.heap.size ≤ g ∧ g < w1.heap.size) := Lib.hid R_s_t_w1.out.lt
  go_wp2_with fail
  refine (K1.out _ v_s_t R_s_t_w1.out.sl).mono ?_
  rintro e w2 ⟨rfl, hbw2⟩
  have hzw2 : w1.heap.size ≤ w2.heap.size := hbw2.size
  have R_s_t_w2 := Lib.hid (R_s_t_w1.out.below hbw2)
  clear R_s_t_w1
  have HBw2 : Hid (Below w.heap.size w w2) := Lib.hid (HBw1.out.trans (hbw2.mono HBw1.out.size))
  have hww2 := HBw2.out.size
  clear hbw2 HBw1
  clear R_s_t_w2 lt_s_t
  go_wp2_with fail
  refine (toIntS_any _ l_t _ (HS_t.out.below HBw2.out (Nat.le_refl _)) b_t).mono ?_
  rintro e w3 ⟨v_x_t, rfl, hrw3, hbw3⟩
  have hzw3 : w2.heap.size ≤ w3.heap.size := hbw3.size
  have HBw3 : Hid (Below w.heap.size w w3) := Lib.hid (HBw2.out.trans (hbw3.mono HBw2.out.size))
  have hww3 := HBw3.out.size
  clear hbw3 HBw2
  have R_x_t_w3 := Lib.hid hrw3; clear hrw3
  have lt_x_t : Hid (∀ g, v_x_t.ownBlock = some g → w2.heap.size ≤ g ∧ g < w3.heap.size) := Lib.hid R_x_t_w3.out.lt
  go_wp2_with fail
  refine (K2.out _ v_x_t R_x_t_w3.out.sl).mono ?_
  rintro e w4 ⟨rfl, hbw4⟩
  have hzw4 : w3.heap.size ≤ w4.heap.size := hbw4.size
  have R_x_t_w4 := Lib.hid (R_x_t_w3.out.below hbw4)
  clear R_x_t_w3
  have HBw4 : Hid (Below w.heap.size w w4) := Lib.hid (HBw3.out.trans (hbw4.mono HBw3.out.size))
  have hww4 := HBw4.out.size
  clear hbw4 HBw3
  go_wp2_with fail
  refine (toIntS_any _ l_t _ (HS_t.out.below HBw4.out (Nat.le_refl _)) b_t).mono ?_
  rintro e w5 ⟨v_y_t, rfl, hrw5, hbw5⟩
  have hzw5 : w4.heap.size ≤ w5.heap.size := hbw5.size
  have R_x_t_w5 := Lib.hid (R_x_t_w4.out.below hbw5)
  clear R_x_t_w4
  have HBw5 : Hid (Below w.heap.size w w5) := Lib.hid (HBw4.out.trans (hbw5.mono HBw4.out.size))
  have hww5 := HBw5.out.size
  clear hbw5 HBw4
  have R_y_t_w5 := Lib.hid hrw5; clear hrw5
  have lt_y_t : Hid (∀ g, v_y_t.ownBlock = some g → w4.heap.size ≤ g ∧ g < w5.heap.size) := Lib.hid R_y_t_w5.out.lt
  go_wp2_with fail
  refine (eq_same v_x_t v_y_t l_t _ _ _ R_x_t_w5.out R_y_t_w5.out (by omega)).mono ?_
  rintro e w6 ⟨rfl, hbw6⟩
  have hzw6 : w5.heap.size ≤ w6.heap.size := hbw6.size
  have R_x_t_w6 := Lib.hid (R_x_t_w5.out.below hbw6)
  clear R_x_t_w5
  have R_y_t_w6 := Lib.hid (R_y_t_w5.out.below hbw6)
  clear R_y_t_w5
  have HBw6 : Hid (Below w.heap.size w w6) := Lib.hid (HBw5.out.trans (hbw6.mono HBw5.out.size))
  have hww6 := HBw6.out.size
  clear hbw6 HBw5
  clear R_y_t_w6 lt_y_t
  go_wp2
  go_ret
  exact ⟨rfl, HBw6.out⟩
end Go.Proofs.Ytlamclhhocofiab
