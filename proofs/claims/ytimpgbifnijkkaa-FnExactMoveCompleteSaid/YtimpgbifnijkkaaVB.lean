/- Complete polynomials undone, moved, and undone with x added: InverseComplete, MoveComplete, NegatedInverse, of both, by contracts; the walks of their laws. -/
import Derived.Test.YtimpgbifnijkkaaVA
import Derived.Test.YtimpgbifnijkkaaLU
import Derived.Test.YtimpgbifnijkkaaLP
import Derived.Test.YtimpgbifnijkkaaVP
import Derived.Deep.RegionHeld3
namespace Go.Proofs.Ytimpgbifnijkkaa
open Go.RowKit
theorem cpt_parts {m : Nat} {t : Nat → Int} (h : cpt m t = true) : dis t m = true ∧ dis (cmt m t) m = true := by
  simpa [cpt, Bool.and_eq_true] using h
theorem val_lin1 {m : Nat} {a x : Int} (h : isSz (m : Int) = true) (ha : El (m : Int) a) (hx : El (m : Int) x) : val m (lin 1 a) 2 x = addF m x a := by
  show addF m (addF m 0 (mulF m a 1)) (mulF m 1 (mulF m 1 x)) = _
  rw [(mul_one' h ha).2, (add_zero' h ha).2, (mul_one' h hx).1, (mul_one' h hx).1, add_comm' h ha hx]
theorem neg_one_mul {q x : Int} (h : isSz q = true) (hx : El q x) : mulF q (subF q 0 1) x = subF q 0 x :=
  of_decide_eq_true (of_chk1 (f := fun q x => decide (mulF q (subF q 0 1) x = subF q 0 x)) (by decide +kernel) q x h hx.1 hx.2)
set_option maxHeartbeats 2000000 in
theorem vcp_yes (m : Nat) (v : Value) (l : List Int) (w : World) (h : isSz (m : Int) = true) (hv : Sl w v l) (hg : good (m : Int) l = true) (hd : cpt m (tbl m l) = true) :
    Calls Try.prog 51 #[.int .i64 m, v] w fun e w' => ∃ g, e = .returned (.tuple #[polyE (m : Int) (.slice (some ⟨g, 0, none⟩) l.length l.length), .bool true]) ∧ w.heap.size ≤ g ∧ g < w'.heap.size ∧ Els w' g (m : Int) (fun i => l.getD i 0) l.length ∧ Below w.heap.size w w' := by
  have hq := isSz_le (m : Int) h
  have hlen := (good_parts hg).1
  have HP := Lib.hid (fun w' (hb : Below w.heap.size w w') => validPoly_yes (m : Int) v l w' h (hv.below hb (Nat.le_refl _)) hg)
  have HPM := Lib.hid (fun (g1 : Nat) w' (hgl1 : g1 < w'.heap.size) (he1 : Els w' g1 (m : Int) (fun i => l.getD i 0) l.length) => by
    have := isCompleteT m _ (tbl m l) w' h ⟨g1, l.length, l.length, fun i => l.getD i 0, rfl, hgl1, he1, tb_goodE h hg⟩
    rw [hd] at this
    exact this)
  clear h hv hg hd
  generalize (fun i => l.getD i 0) = f at *
  generalize l.length = n at *
  go_enter Try.func51, Try.ntmps51
  go_wp2_with fail
  refine (HP.out _ (by (repeat' (first | (with_reducible assumption) | (with_reducible exact Below.refl _ _) | (with_reducible refine below_drewN ?_ _) | (with_reducible refine Below.drew ?_) | (with_reducible refine Below.alloc ?_ ?_ _) | (with_reducible refine Below.setCell ?_ ?_ _) | (with_reducible refine Below.trans ?_ (Below.mono (by assumption) ?_)) | (with_reducible exact Nat.le_refl _) | (with_reducible assumption) | omega | (simp; omega) | (simp; done))))).mono ?_
  rintro e w1 ⟨g, rfl, hgg, hk1, he1, hb1⟩
  simp at hgg
  have hgl := hk1.lt
  have HE1 := Lib.hid he1; clear he1 hk1
  obtain ⟨hc1, hf1⟩ := bcell hb1; have hz1 := hb1.size; (try simp at hz1); have HB1 := Lib.hid hb1; clear hb1
  have l1 : w.heap.size < w1.heap.size := by omega
  go_wp2_with fail
  refine (HPM.out g _ (by simp; omega) (HE1.out.below (B := w1.heap.size) (by (repeat' (first | (with_reducible assumption) | (with_reducible exact Below.refl _ _) | (with_reducible refine below_drewN ?_ _) | (with_reducible refine Below.drew ?_) | (with_reducible refine Below.alloc ?_ ?_ _) | (with_reducible refine Below.setCell ?_ ?_ _) | (with_reducible refine Below.trans ?_ (Below.mono (by assumption) ?_)) | (with_reducible exact Nat.le_refl _) | (with_reducible assumption) | omega | (simp; omega) | (simp; done)))) hgl)).mono ?_
  rintro e w2 ⟨rfl, hb2⟩
  obtain ⟨hc2, hf2⟩ := bcell hb2; have hz2 := hb2.size; (try simp at hz2); have HB2 := Lib.hid hb2; clear hb2
  have l2 : w.heap.size < w2.heap.size := by omega
  have l3 : w1.heap.size < w2.heap.size := by omega
  go_wp2_with fail
  have hb1 := HB1.out
  have hb2 := HB2.out
  have q0 : w2.heap[w.heap.size]? = some pzblk := (Below.block (B := w.heap.size + 1) (show Below (w.heap.size + 1) (w.alloc pzblk) w2 by (repeat' (first | (with_reducible assumption) | (with_reducible exact Below.refl _ _) | (with_reducible refine below_drewN ?_ _) | (with_reducible refine Below.drew ?_) | (with_reducible refine Below.alloc ?_ ?_ _) | (with_reducible refine Below.setCell ?_ ?_ _) | (with_reducible refine Below.trans ?_ (Below.mono (by assumption) ?_)) | (with_reducible exact Nat.le_refl _) | (with_reducible assumption) | omega | (simp; omega) | (simp; done)))) w.heap.size (by omega)).trans (heap_alloc_new w _)
  obtain ⟨s0, s1, s2, s3, sf, sl⟩ := cells4 q0
  clear q0
  refine bodyPost_ret (v := .tuple #[polyE (m : Int) (.slice (some ⟨g, 0, none⟩) n n), .bool true]) (by simp [results, Try.results51, go_sem, s0, s1, s2, s3]) rfl ⟨g, rfl, by omega, by simp; omega, ?_, ?_⟩
  · have hbw : Below w1.heap.size w1 w2 := by (repeat' (first | (with_reducible assumption) | (with_reducible exact Below.refl _ _) | (with_reducible refine below_drewN ?_ _) | (with_reducible refine Below.drew ?_) | (with_reducible refine Below.alloc ?_ ?_ _) | (with_reducible refine Below.setCell ?_ ?_ _) | (with_reducible refine Below.trans ?_ (Below.mono (by assumption) ?_)) | (with_reducible exact Nat.le_refl _) | (with_reducible assumption) | omega | (simp; omega) | (simp; done)))
    exact (HE1.out.below hbw hgl).same (put4_other _ _ _ _ _ (by omega))
  · exact put4_below (by (repeat' (first | (with_reducible assumption) | (with_reducible exact Below.refl _ _) | (with_reducible refine below_drewN ?_ _) | (with_reducible refine Below.drew ?_) | (with_reducible refine Below.alloc ?_ ?_ _) | (with_reducible refine Below.setCell ?_ ?_ _) | (with_reducible refine Below.trans ?_ (Below.mono (by assumption) ?_)) | (with_reducible exact Nat.le_refl _) | (with_reducible assumption) | omega | (simp; omega) | (simp; done)))) _ (Nat.le_refl _) _ _
set_option maxHeartbeats 2000000 in
theorem vcp_no2 (m : Nat) (v : Value) (l : List Int) (w : World) (h : isSz (m : Int) = true) (hv : Sl w v l) (hg : good (m : Int) l = true) (hd : cpt m (tbl m l) = false) :
    Calls Try.prog 51 #[.int .i64 m, v] w fun e w' => e = .returned (.tuple #[polyZ, .bool false]) ∧ Below w.heap.size w w' := by
  have hq := isSz_le (m : Int) h
  have hlen := (good_parts hg).1
  have HP := Lib.hid (fun w' (hb : Below w.heap.size w w') => validPoly_yes (m : Int) v l w' h (hv.below hb (Nat.le_refl _)) hg)
  have HPM := Lib.hid (fun (g1 : Nat) w' (hgl1 : g1 < w'.heap.size) (he1 : Els w' g1 (m : Int) (fun i => l.getD i 0) l.length) => by
    have := isCompleteT m _ (tbl m l) w' h ⟨g1, l.length, l.length, fun i => l.getD i 0, rfl, hgl1, he1, tb_goodE h hg⟩
    rw [hd] at this
    exact this)
  clear h hv hg hd
  generalize (fun i => l.getD i 0) = f at *
  generalize l.length = n at *
  go_enter Try.func51, Try.ntmps51
  go_wp2_with fail
  refine (HP.out _ (by (repeat' (first | (with_reducible assumption) | (with_reducible exact Below.refl _ _) | (with_reducible refine below_drewN ?_ _) | (with_reducible refine Below.drew ?_) | (with_reducible refine Below.alloc ?_ ?_ _) | (with_reducible refine Below.setCell ?_ ?_ _) | (with_reducible refine Below.trans ?_ (Below.mono (by assumption) ?_)) | (with_reducible exact Nat.le_refl _) | (with_reducible assumption) | omega | (simp; omega) | (simp; done))))).mono ?_
  rintro e w1 ⟨g, rfl, hgg, hk1, he1, hb1⟩
  simp at hgg
  have hgl := hk1.lt
  have HE1 := Lib.hid he1; clear he1 hk1
  obtain ⟨hc1, hf1⟩ := bcell hb1; have hz1 := hb1.size; (try simp at hz1); have HB1 := Lib.hid hb1; clear hb1
  have l1 : w.heap.size < w1.heap.size := by omega
  go_wp2_with fail
  refine (HPM.out g _ (by simp; omega) (HE1.out.below (B := w1.heap.size) (by (repeat' (first | (with_reducible assumption) | (with_reducible exact Below.refl _ _) | (with_reducible refine below_drewN ?_ _) | (with_reducible refine Below.drew ?_) | (with_reducible refine Below.alloc ?_ ?_ _) | (with_reducible refine Below.setCell ?_ ?_ _) | (with_reducible refine Below.trans ?_ (Below.mono (by assumption) ?_)) | (with_reducible exact Nat.le_refl _) | (with_reducible assumption) | omega | (simp; omega) | (simp; done)))) hgl)).mono ?_
  rintro e w2 ⟨rfl, hb2⟩
  obtain ⟨hc2, hf2⟩ := bcell hb2; have hz2 := hb2.size; (try simp at hz2); have HB2 := Lib.hid hb2; clear hb2
  have l2 : w.heap.size < w2.heap.size := by omega
  have l3 : w1.heap.size < w2.heap.size := by omega
  go_wp2_with fail
  have hb1 := HB1.out
  have hb2 := HB2.out
  have q0 : w2.heap[w.heap.size]? = some pzblk := (Below.block (B := w.heap.size + 1) (show Below (w.heap.size + 1) (w.alloc pzblk) w2 by (repeat' (first | (with_reducible assumption) | (with_reducible exact Below.refl _ _) | (with_reducible refine below_drewN ?_ _) | (with_reducible refine Below.drew ?_) | (with_reducible refine Below.alloc ?_ ?_ _) | (with_reducible refine Below.setCell ?_ ?_ _) | (with_reducible refine Below.trans ?_ (Below.mono (by assumption) ?_)) | (with_reducible exact Nat.le_refl _) | (with_reducible assumption) | omega | (simp; omega) | (simp; done)))) w.heap.size (by omega)).trans (heap_alloc_new w _)
  obtain ⟨s0, s1, s2, s3, sf, sl⟩ := cells4 q0
  clear q0
  refine bodyPost_ret (v := .tuple #[polyZ, .bool false]) (by simp [results, Try.results51, go_sem, s0, s1, s2, s3]) rfl ⟨rfl, ?_⟩
  (repeat' (first | (with_reducible assumption) | (with_reducible exact Below.refl _ _) | (with_reducible refine below_drewN ?_ _) | (with_reducible refine Below.drew ?_) | (with_reducible refine Below.alloc ?_ ?_ _) | (with_reducible refine Below.setCell ?_ ?_ _) | (with_reducible refine Below.trans ?_ (Below.mono (by assumption) ?_)) | (with_reducible exact Nat.le_refl _) | (with_reducible assumption) | omega | (simp; omega) | (simp; done)))
theorem vcp_no1 (q : Int) (v : Value) (l : List Int) (w : World) (hv : Sl w v l) (hl : l.length ≤ 1048576) (hg : (isSz q && good q l) = false) :
    Calls Try.prog 51 #[.int .i64 q, v] w fun e w' => e = .returned (.tuple #[polyZ, .bool false]) ∧ Below w.heap.size w w' := by
  have HP := Lib.hid (fun w' (hb : Below w.heap.size w w') => validPoly_no q v l w' (hv.below hb (Nat.le_refl _)) hl hg)
  clear hg hv hl
  go_enter Try.func51, Try.ntmps51
  go_wp2_with fail
  refine (HP.out _ (by (repeat' (first | (with_reducible assumption) | (with_reducible exact Below.refl _ _) | (with_reducible refine below_drewN ?_ _) | (with_reducible refine Below.drew ?_) | (with_reducible refine Below.alloc ?_ ?_ _) | (with_reducible refine Below.setCell ?_ ?_ _) | (with_reducible refine Below.trans ?_ (Below.mono (by assumption) ?_)) | (with_reducible exact Nat.le_refl _) | (with_reducible assumption) | omega | (simp; omega) | (simp; done))))).mono ?_
  rintro e w1 ⟨rfl, hb1⟩
  obtain ⟨hc1, hf1⟩ := bcell hb1; have hz1 := hb1.size; (try simp at hz1); have HB1 := Lib.hid hb1; clear hb1
  have l1 : w.heap.size < w1.heap.size := by omega
  go_wp2_with fail
  have hb1 := HB1.out
  have q0 : w1.heap[w.heap.size]? = some pzblk := (Below.block (B := w.heap.size + 1) (show Below (w.heap.size + 1) (w.alloc pzblk) w1 by (repeat' (first | (with_reducible assumption) | (with_reducible exact Below.refl _ _) | (with_reducible refine below_drewN ?_ _) | (with_reducible refine Below.drew ?_) | (with_reducible refine Below.alloc ?_ ?_ _) | (with_reducible refine Below.setCell ?_ ?_ _) | (with_reducible refine Below.trans ?_ (Below.mono (by assumption) ?_)) | (with_reducible exact Nat.le_refl _) | (with_reducible assumption) | omega | (simp; omega) | (simp; done)))) w.heap.size (by omega)).trans (heap_alloc_new w _)
  obtain ⟨s0, s1, s2, s3, sf, sl⟩ := cells4 q0
  clear q0
  refine bodyPost_ret (v := .tuple #[polyZ, .bool false]) (by simp [results, Try.results51, go_sem, s0, s1, s2, s3, l1]) rfl ⟨rfl, ?_⟩
  (repeat' (first | (with_reducible assumption) | (with_reducible exact Below.refl _ _) | (with_reducible refine below_drewN ?_ _) | (with_reducible refine Below.drew ?_) | (with_reducible refine Below.alloc ?_ ?_ _) | (with_reducible refine Below.setCell ?_ ?_ _) | (with_reducible refine Below.trans ?_ (Below.mono (by assumption) ?_)) | (with_reducible exact Nat.le_refl _) | (with_reducible assumption) | omega | (simp; omega) | (simp; done)))
theorem vcp_no (q : Int) (v : Value) (l : List Int) (w : World) (hv : Sl w v l) (hl : l.length ≤ 1048576) (hg : cpl q l = false) :
    Calls Try.prog 51 #[.int .i64 q, v] w fun e w' => e = .returned (.tuple #[polyZ, .bool false]) ∧ Below w.heap.size w w' := by
  cases hs : isSz q && good q l with
  | false => exact vcp_no1 q v l w hv hl hs
  | true =>
    have hs2 := hs
    simp only [Bool.and_eq_true] at hs2
    have hq := isSz_le q hs2.1
    obtain ⟨m, rfl⟩ := Int.eq_ofNat_of_zero_le (show 0 ≤ q by omega)
    rw [cpl_of hs2.1 hs2.2] at hg
    exact vcp_no2 m v l w hs2.1 hv hs2.2 hg
theorem vcp_T (m : Nat) (v : Value) (l : List Int) (w : World) (h : isSz (m : Int) = true) (hv : Sl w v l) (hg : good (m : Int) l = true) (hd : cpt m (tbl m l) = true) :
    Calls Try.prog 51 #[.int .i64 m, v] w fun e w' => ∃ v', e = .returned (.tuple #[polyE (m : Int) v', .bool true]) ∧ IsP w' v' m (tbl m l) ∧ Below w.heap.size w w' :=
  (vcp_yes m v l w h hv hg hd).mono fun _ _ ⟨g, h1, _, h3, h4, h5⟩ => ⟨_, h1, ⟨g, _, _, _, rfl, h3, h4, tb_goodE h hg⟩, h5⟩
theorem cmGiven_no1 (q : Int) (v : Value) (l : List Int) (w : World) (hv : Sl w v l) (hl : l.length ≤ 1048576) (hg : (isSz q && good q l) = false) :
    Calls Try.prog 49 #[.int .i64 q, v] w fun e w' => ∃ v', e = .returned (.tuple #[v', .bool false]) ∧ Below w.heap.size w w' := by
  have hp := plGood_any q v l w hv hl
  rw [hg] at hp
  have HP := Lib.hid hp
  clear hp hg hv hl
  go_enter Try.func49, Try.ntmps49
  go_wp2_with fail
  refine HP.out.mono ?_
  rintro e w1 ⟨rfl, hb1⟩
  go_wp2
  go_ret2
  exact ⟨_, rfl, hb1⟩
set_option maxRecDepth 100000 in
set_option maxHeartbeats 4000000 in
theorem cmGiven_any (m : Nat) (v : Value) (l : List Int) (w : World) (h : isSz (m : Int) = true) (hv : Sl w v l) (hg : good (m : Int) l = true) :
    Calls Try.prog 49 #[.int .i64 m, v] w fun e w' => ∃ v', e = .returned (.tuple #[v', .bool (cpt m (tbl m l))]) ∧ Row w' w.heap.size v' (fl (tbl m l) m) ∧ Below w.heap.size w w' := by
  have hq := isSz_le (m : Int) h
  have hlen := (good_parts hg).1
  have hp := plGood_any (m : Int) v l w hv (by omega)
  rw [h, hg] at hp
  have HP := Lib.hid hp
  have HV : Hid (∀ w', Below w.heap.size w w' → Calls Try.prog 42 #[.int .i64 m, v] w' fun e w'' => ∃ v', e = .returned v' ∧ Row w'' w'.heap.size v' (fl (tbl m l) m) ∧ Below w'.heap.size w' w'') := Lib.hid fun w' hb => by
    have := plValues_any (m : Int) v l w' h (hv.below hb (Nat.le_refl _)) hg
    rw [Int.toNat_natCast] at this
    exact this
  have HI := Lib.hid (fun B v' w' (hr : Row w' B v' (fl (tbl m l) m)) => cmIs_any m B v' (tbl m l) w' h hr (tbl_el h hg))
  clear hp hg hv h
  generalize cpt m (tbl m l) = r at *
  generalize tbl m l = t at *
  go_enter Try.func49, Try.ntmps49
  go_wp2_with fail
  refine HP.out.mono ?_
  rintro e w1 ⟨rfl, hb1⟩
  have hz_hb1 := hb1.size; (try simp at hz_hb1)
  have HB1 := Lib.hid hb1; clear hb1
  go_wp2_with fail
  refine (HV.out _ HB1.out).mono ?_
  rintro e w3 ⟨v3, rfl, hr3, hb3⟩
  have HR3 := Lib.hid hr3
  have HB3 : Hid (Below w.heap.size w w3) := Lib.hid (HB1.out.trans (hb3.mono hz_hb1)); clear hb3 hr3
  go_wp2_with fail
  refine (HI.out _ _ _ HR3.out).mono ?_
  rintro e w4 ⟨rfl, hb4⟩
  have HR4 := Lib.hid (HR3.out.below hb4)
  have HB4 : Hid (Below w.heap.size w w4) := Lib.hid (HB3.out.trans (hb4.mono HB3.out.size)); clear hb4
  go_wp2
  go_ret2
  exact ⟨_, rfl, HR4.out.mono hz_hb1, HB4.out⟩
theorem cmGiven_no (q : Int) (v : Value) (l : List Int) (w : World) (hv : Sl w v l) (hl : l.length ≤ 1048576) (hg : cpl q l = false) :
    Calls Try.prog 49 #[.int .i64 q, v] w fun e w' => ∃ v', e = .returned (.tuple #[v', .bool false]) ∧ Below w.heap.size w w' := by
  cases hs : isSz q && good q l with
  | false => exact cmGiven_no1 q v l w hv hl hs
  | true =>
    have hs2 := hs
    simp only [Bool.and_eq_true] at hs2
    have hq := isSz_le q hs2.1
    obtain ⟨m, rfl⟩ := Int.eq_ofNat_of_zero_le (show 0 ≤ q by omega)
    rw [cpl_of hs2.1 hs2.2] at hg
    have := cmGiven_any m v l w hs2.1 hv hs2.2
    rw [hg] at this
    exact this.mono fun _ _ ⟨v', h1, _, h2⟩ => ⟨v', h1, h2⟩
set_option maxRecDepth 100000 in
set_option maxHeartbeats 4000000 in
/-- spec.cmUndo. -/
theorem cmUndo_any (m : Nat) (v : Value) (t : Nat → Int) (w : World) (h : isSz (m : Int) = true) (hv : Sl w v (fl t m)) (ht : ∀ i, i < m → El (m : Int) (t i)) (hd : dis t m = true) :
    Calls Try.prog 50 #[v] w fun e w' => ∃ v', e = .returned v' ∧ Row w' w.heap.size v' (fl (inv t m) m) ∧ Below w.heap.size w w' := by
  obtain ⟨i0, hi, iz0, iz1, iz2⟩ := info_parts Try.infoI
  have hq := isSz_le (m : Int) h
  have HTE := Lib.hid ht
  have HBI := Lib.hid (bk_inv (t := t) (fun i hi => ⟨(HTE.out i hi).1, (HTE.out i hi).2⟩) hd)
  obtain ⟨g1, off1, cp1, rfl, hgl1, hc1⟩ := hv.open (fl_len _ _) (by omega)
  have HC1 : Hid (∀ i, i < m → w.cell? ⟨g1, off1 + i, none⟩ = some (.int .i64 (t i))) := Lib.hid fun i hi => by rw [hc1 i hi, fl_get _ _ _ hi]
  clear hv hc1 h ht hd
  have HSTEP : Hid (∀ k, bk t (k + 1) = upd (bk t k) (t k).toNat (k : Int)) := Lib.hid fun _ => rfl
  have H0 : Hid (bk t 0 = fun _ => 0) := Lib.hid rfl
  generalize bk t = C at *
  generalize inv t m = I at *
  go_enter Try.func50, Try.ntmps50
  go_wp2_with (at_make; refine wpList_make_full _ rfl _ _ 22 rfl w.heap.size 3 i0 (.int .i64 0) 1 Try.underlying22 hi iz0 iz1 .i64 .i64 _ _ m rfl rfl rfl rfl ?c3 ?c4 ?c5 ?_)
  case c3 => rw [iz2]; omega
  case c4 => unfold maxLen; omega
  case c5 => omega
  intro w2 hown hgrow
  have HR : Hid (Row w2 w.heap.size (.slice (some ⟨w.heap.size, 0, none⟩) m m) (fl (C 0) m)) := Lib.hid (by
    have := Row.madeF (fun _ => 0) hown
    rw [H0.out, show fl (fun _ => (0 : Int)) m = fl (part0 (fun _ => 0) 0) m from fl_congr fun i _ => by simp [part0]]
    exact this)
  have HB := Lib.hid ((Below.refl w.heap.size w).grown hgrow (Nat.le_refl _) (fun k hk => by cases hk))
  have hgl : w.heap.size < w2.heap.size := (HR.out.lt w.heap.size rfl).2
  clear hown hgrow
  go_wp2_with fail
  go_loopw [11] (fun vi wr => ∃ k : Nat, k ≤ m ∧ vi = .int .i64 k ∧ Row wr w.heap.size (.slice (some ⟨w.heap.size, 0, none⟩) m m) (fl (C k) m) ∧ w.heap.size < wr.heap.size ∧ Below w.heap.size w wr) (fun vi _ => m - (intOf vi).toNat)
  case atStart => exact ⟨0, Nat.zero_le _, rfl, HR.out, hgl, HB.out⟩
  case round =>
    obtain ⟨k, hin, rfl, hr, hgl', hbw⟩ := hrel
    have HRr := Lib.hid hr; clear hr
    by_cases hlt : k < m
    · have hcell := (hbw.cell (p := ⟨g1, off1 + k, none⟩) hgl1).trans (HC1.out k hlt)
      have HBW := Lib.hid hbw; clear hbw
      obtain ⟨x0, x1⟩ := HTE.out k hlt
      have HST := Lib.hid (HSTEP.out k)
      obtain ⟨X, hX⟩ := Int.eq_ofNat_of_zero_le x0
      rw [hX] at hcell x1 HST
      rw [Int.toNat_natCast] at HST
      have hXm : X < m := by omega
      have HSTO := Lib.hid (fun w' (hr : Row w' w.heap.size (.slice (some ⟨w.heap.size, 0, none⟩) m m) (fl (C k) m)) x => hr.store (by rw [fl_len]) X x)
      have f2 := HRr.out.frozen (by rw [fl_len]) X
      have e2 := Row.cell (l := fl (C k) m) (cap := m) (by rw [fl_len]; exact HRr.out) X (by rw [fl_len]; exact hXm)
      clear hX x0
      generalize (fl (C k) m).getD X 0 = z at *
      have HR3 := Lib.hid (HSTO.out _ HRr.out (k : Int))
      have HB3 := Lib.hid (HBW.out.setCell (p := ⟨w.heap.size, X, none⟩) (Nat.le_refl _) (.int .i64 (k : Int)))
      go_wp2
      go_roundw
      case rel =>
        refine ⟨k + 1, by omega, by go_num, ?_, by simp; omega, HB3.out⟩
        rw [HST.out, ← fl_set]
        exact HR3.out
      case measure => (simp [intOf]; try omega)
    · obtain rfl : m = k := by omega
      have HBW := Lib.hid hbw; clear hbw
      have HR4 : Hid (Row wr w.heap.size (.slice (some ⟨w.heap.size, 0, none⟩) m m) (fl I m)) := Lib.hid (by rw [← HBI.out]; exact HRr.out)
      go_wp2
      go_ret
      exact ⟨_, rfl, HR4.out, HBW.out⟩
theorem find_cg {p q : Nat → Bool} : ∀ (l : List Nat), (∀ x ∈ l, p x = q x) → l.find? p = l.find? q
  | [], _ => rfl
  | a :: l, h => by
    rw [List.find?_cons, List.find?_cons, h a (by simp), find_cg l fun x hx => h x (by simp [hx])]
theorem inv_cg {t u : Nat → Int} {m : Nat} (h : ∀ a, a < m → t a = u a) (y : Nat) : inv t m y = inv u m y := by
  unfold inv
  rw [find_cg (List.range m) fun x hx => by rw [h x (List.mem_range.1 hx)]]
/-- impl.poly.inverse, told by the table. -/
theorem inverseT (m : Nat) (v : Value) (t : Nat → Int) (w : World) (h : isSz (m : Int) = true) (hv : IsP w v m t) (hd : dis t m = true) :
    Calls Try.prog 52 #[polyE (m : Int) v] w fun e w' => ∃ v', e = .returned (polyE (m : Int) v') ∧ IsP w' v' m (inv t m) ∧ Below w.heap.size w w' := by
  have hq := isSz_le (m : Int) h
  obtain ⟨g, k, cap, f, rfl, hg, he, hf, hk, htab⟩ := hv.tab h
  have hd' : dis (tabF (m : Int) f k) m = true := by rw [dis_cg htab]; exact hd
  refine (inversePE m g k cap f w h hg he hf (by omega) hd').mono ?_
  rintro e w' ⟨g', k', cap', f', rfl, hg', he', _, _, hfl, hb⟩
  have hT : ∀ i, i < m → El (m : Int) (inv (tabF (m : Int) f k) m i) := fun i hi => inv_lt (by omega)
  have hel := clm_el h hT
  have e1 : ftl m (inv (tabF (m : Int) f k) m) = fl (redR m (tms m (clm m (inv (tabF (m : Int) f k) m))) m) (redn m (tms m (clm m (inv (tabF (m : Int) f k) m))) m) := (from_same' h hel).symm
  rw [e1] at hfl
  have hk' : k' = redn m (tms m (clm m (inv (tabF (m : Int) f k) m))) m := by have := congrArg List.length hfl; rwa [fl_len, fl_len] at this
  subst hk'
  refine ⟨_, rfl, ⟨g', _, cap', _, rfl, hg', he'.like' fun i hi => ?_, (tb_with h hel).like fun a ha => ?_⟩, hb⟩
  · have := congrArg (fun l : List Int => l.getD i 0) hfl
    simp only [fl_get _ _ i hi] at this
    exact this
  · rw [show clm m (inv (tabF (m : Int) f k) m) a = inv (tabF (m : Int) f k) m a by simp [clm, ha]]
    exact inv_cg htab a
/-- impl.poly.shifted, told by the table. -/
theorem shiftedT (m : Nat) (a : Int) (v : Value) (t : Nat → Int) (w : World) (h : isSz (m : Int) = true) (hv : IsP w v m t) (ha : El (m : Int) a) :
    Calls Try.prog 58 #[polyE (m : Int) v, elE (m : Int) a] w fun e w' => ∃ v', e = .returned (polyE (m : Int) v') ∧ IsP w' v' m (fun x => t (addF m (x : Int) a).toNat) ∧ Below w.heap.size w w' := by
  have hq := isSz_le (m : Int) h
  obtain ⟨g, k, cap, f, rfl, hg, he, ht⟩ := hv
  have hle := ht.le
  refine (shiftedE m k a _ f w h ⟨g, cap, rfl, hg, he⟩ ht.el ha (by omega)).mono ?_
  rintro e w' ⟨g', cap', rfl, hg', he', hb⟩
  have hel := clm_el h (tabC_el (n := k) (k := 2) h ht.el (sft_el h ha))
  refine ⟨_, rfl, ⟨g', _, cap', _, rfl, hg', he', (tb_with h hel).like fun x hx => ?_⟩, hb⟩
  rw [show clm m (tabC m f k (sft a) 2) x = tabC m f k (sft a) 2 x by simp [clm, hx]]
  have hX := El.nat (m := m) hx
  have e1 : tabF m (sft a) 2 x = addF m (x : Int) a := by
    show hor m (x : Int) (sft a) 2 2 = _
    rw [hor_val h hX (sft_el h ha) 2, sft_lin, val_lin1 h ha hX]
  have hs := El.add h hX ha
  show hor m (tabF m (sft a) 2 x) f k k = _
  rw [e1, hor_val h hs ht.el k]
  have hz : addF m (x : Int) a = ((addF m (x : Int) a).toNat : Int) := by have := hs.1; omega
  rw [← ht.short h (addF m (x : Int) a).toNat (by have := hs.2; omega), ← hz]
theorem tb_con1 {m : Nat} {a : Int} (h : isSz (m : Int) = true) (ha : El (m : Int) a) : Tb m (redR m (fun _ => a) 1) (redn m (fun _ => a) 1) (fun _ => a) :=
  (tb_red h (fun _ => ha) 1).like fun x _ => by
    show addF m 0 (mulF m a 1) = a
    rw [(mul_one' h ha).2, (add_zero' h ha).2]
/-- impl.poly.plusElement, told by the table. -/
theorem plusElementT (m : Nat) (a : Int) (v : Value) (t : Nat → Int) (w : World) (h : isSz (m : Int) = true) (hv : IsP w v m t) (ha : El (m : Int) a) :
    Calls Try.prog 59 #[polyE (m : Int) v, elE (m : Int) a] w fun e w' => ∃ v', e = .returned (polyE (m : Int) v') ∧ IsP w' v' m (fun x => addF m (t x) a) ∧ Below w.heap.size w w' := by
  obtain ⟨g, n, cap, f, rfl, hg, he, ht⟩ := hv
  refine (plusElementE m n a _ f w h ⟨g, cap, rfl, hg, he⟩ ht.el ht.le ht.past ha).mono ?_
  rintro e w' ⟨g', cap', rfl, hg', he', hb⟩
  exact ⟨_, rfl, ⟨g', _, cap', _, rfl, hg', he', tb_plsR h ht (tb_con1 h ha)⟩, hb⟩
theorem spec_InverseComplete_no (q : Int) (v : Value) (l : List Int) (w : World) (hv : Sl w v l) (hl : l.length ≤ 1048576) (hg : cpl q l = false) :
    Calls Try.prog 21 #[.int .i64 q, v] w fun e w' => e = .returned (.tuple #[.slice none 0 0, .bool false]) ∧ Below w.heap.size w w' := by
  have HP := Lib.hid (cmGiven_no q v l w hv hl hg)
  clear hg hv hl
  go_enter Try.func21, Try.ntmps21
  go_wp2_with fail
  refine HP.out.mono ?_
  rintro e w1 ⟨v1, rfl, hb1⟩
  have hz_hb1 := hb1.size; (try simp at hz_hb1)
  have HB1 := Lib.hid hb1; clear hb1
  go_wp2_with fail
  go_ret2
  have hb1 := HB1.out
  exact ⟨rfl, by (repeat' (first | (with_reducible assumption) | (with_reducible exact Below.refl _ _) | (with_reducible refine below_drewN ?_ _) | (with_reducible refine Below.drew ?_) | (with_reducible refine Below.alloc ?_ ?_ _) | (with_reducible refine Below.setCell ?_ ?_ _) | (with_reducible refine Below.trans ?_ (Below.mono (by assumption) ?_)) | (with_reducible exact Nat.le_refl _) | (with_reducible assumption) | omega | (simp; omega) | (simp; done)))⟩
theorem impl_InverseComplete_no (q : Int) (v : Value) (l : List Int) (w : World) (hv : Sl w v l) (hl : l.length ≤ 1048576) (hg : cpl q l = false) :
    Calls Try.prog 22 #[.int .i64 q, v] w fun e w' => e = .returned (.tuple #[.slice none 0 0, .bool false]) ∧ Below w.heap.size w w' := by
  have HP := Lib.hid (vcp_no q v l w hv hl hg)
  clear hg hv hl
  go_enter Try.func22, Try.ntmps22
  go_wp2_with fail
  refine HP.out.mono ?_
  rintro e w1 ⟨rfl, hb1⟩
  have hz_hb1 := hb1.size; (try simp at hz_hb1)
  have HB1 := Lib.hid hb1; clear hb1
  go_wp2_with fail
  go_ret2
  have hb1 := HB1.out
  exact ⟨rfl, by (repeat' (first | (with_reducible assumption) | (with_reducible exact Below.refl _ _) | (with_reducible refine below_drewN ?_ _) | (with_reducible refine Below.drew ?_) | (with_reducible refine Below.alloc ?_ ?_ _) | (with_reducible refine Below.setCell ?_ ?_ _) | (with_reducible refine Below.trans ?_ (Below.mono (by assumption) ?_)) | (with_reducible exact Nat.le_refl _) | (with_reducible assumption) | omega | (simp; omega) | (simp; done)))⟩
set_option maxRecDepth 100000 in
set_option maxHeartbeats 4000000 in
theorem spec_InverseComplete_yes (m : Nat) (v : Value) (l : List Int) (w : World) (h : isSz (m : Int) = true) (hv : Sl w v l) (hg : good (m : Int) l = true) (hc : cpt m (tbl m l) = true) :
    Calls Try.prog 21 #[.int .i64 m, v] w fun e w' => ∃ v', e = .returned (.tuple #[v', .bool true]) ∧ Row w' w.heap.size v' (ptl m (inv (tbl m l) m)) ∧ Below w.heap.size w w' := by
  have hq := isSz_le (m : Int) h
  have hG := cmGiven_any m v l w h hv hg
  rw [hc] at hG
  have HP := Lib.hid hG
  have hte := tbl_el h hg
  have hie : ∀ i, i < m → El (m : Int) (inv (tbl m l) m i) := fun i hi => inv_lt (by omega)
  have HD := Lib.hid (fun v' w' (hs : Sl w' v' (fl (tbl m l) m)) => cmUndo_any m v' (tbl m l) w' h hs hte (cpt_parts hc).1)
  have HF := Lib.hid (fun v' w' (hs : Sl w' v' (fl (inv (tbl m l) m) m)) => by
    have := plFromT m v' (inv (tbl m l) m) w' h hs hie
    rw [ftl_ptl h hie] at this
    exact this)
  clear hG hg hv h hc hte hie
  generalize ptl m (inv (tbl m l) m) = r at *
  generalize inv (tbl m l) m = D at *
  generalize tbl m l = t at *
  go_enter Try.func21, Try.ntmps21
  go_wp2_with fail
  refine HP.out.mono ?_
  rintro e w3 ⟨v3, rfl, hr3, hb3⟩
  have HR3 := Lib.hid hr3
  have HB3 := Lib.hid hb3; clear hb3 hr3
  go_wp2_with fail
  refine (HD.out _ _ HR3.out.sl).mono ?_
  rintro e w4 ⟨v4, rfl, hr4, hb4⟩
  have HR4 := Lib.hid hr4
  have HB4 : Hid (Below w.heap.size w w4) := Lib.hid (HB3.out.trans (hb4.mono HB3.out.size)); clear hb4 hr4
  go_wp2_with fail
  refine (HF.out _ _ HR4.out.sl).mono ?_
  rintro e w5 ⟨v5, rfl, hr5, hb5⟩
  have HR5 := Lib.hid (hr5.mono HB4.out.size)
  have HB5 : Hid (Below w.heap.size w w5) := Lib.hid (HB4.out.trans (hb5.mono HB4.out.size)); clear hb5 hr5
  go_wp2
  go_ret2
  exact ⟨_, rfl, HR5.out, HB5.out⟩
set_option maxRecDepth 100000 in
set_option maxHeartbeats 4000000 in
theorem impl_InverseComplete_yes (m : Nat) (v : Value) (l : List Int) (w : World) (h : isSz (m : Int) = true) (hv : Sl w v l) (hg : good (m : Int) l = true) (hc : cpt m (tbl m l) = true) :
    Calls Try.prog 22 #[.int .i64 m, v] w fun e w' => ∃ v', e = .returned (.tuple #[v', .bool true]) ∧ Row w' w.heap.size v' (ptl m (inv (tbl m l) m)) ∧ Below w.heap.size w w' := by
  have HP := Lib.hid (vcp_T m v l w h hv hg hc)
  have HD := Lib.hid (fun v' w' (hp : IsP w' v' m (tbl m l)) => inverseT m v' (tbl m l) w' h hp (cpt_parts hc).1)
  have HN := Lib.hid (fun v' w' (hp : IsP w' v' m (inv (tbl m l) m)) => numbersT m v' (inv (tbl m l) m) w' h hp)
  clear h hv hg hc
  generalize ptl m (inv (tbl m l) m) = r at *
  generalize inv (tbl m l) m = D at *
  generalize tbl m l = t at *
  go_enter Try.func22, Try.ntmps22
  go_wp2_with fail
  refine HP.out.mono ?_
  rintro e w1 ⟨v1, rfl, hp1, hb1⟩
  obtain ⟨a1, k1, c1, rfl⟩ := hp1.slice
  have HP1 := Lib.hid hp1; clear hp1
  have hz_hb1 := hb1.size; (try simp at hz_hb1)
  have HB1 := Lib.hid hb1; clear hb1
  go_wp2_with fail
  refine (HD.out _ _ (HP1.out.below (B := w1.heap.size) (by (repeat' (first | (with_reducible assumption) | (with_reducible exact Below.refl _ _) | (with_reducible refine below_drewN ?_ _) | (with_reducible refine Below.drew ?_) | (with_reducible refine Below.alloc ?_ ?_ _) | (with_reducible refine Below.setCell ?_ ?_ _) | (with_reducible refine Below.trans ?_ (Below.mono (by assumption) ?_)) | (with_reducible exact Nat.le_refl _) | (with_reducible assumption) | omega | (simp; omega) | (simp; done)))) (Nat.le_refl _))).mono ?_
  rintro e w2 ⟨v2, rfl, hp2, hb2⟩
  have HP2 := Lib.hid hp2; clear hp2
  have HB2 : Hid (Below w.heap.size w w2) := Lib.hid (by have hb1 := HB1.out; (repeat' (first | (with_reducible assumption) | (with_reducible exact Below.refl _ _) | (with_reducible refine below_drewN ?_ _) | (with_reducible refine Below.drew ?_) | (with_reducible refine Below.alloc ?_ ?_ _) | (with_reducible refine Below.setCell ?_ ?_ _) | (with_reducible refine Below.trans ?_ (Below.mono (by assumption) ?_)) | (with_reducible exact Nat.le_refl _) | (with_reducible assumption) | omega | (simp; omega) | (simp; done)))); clear hb2
  go_wp2_with fail
  refine (HN.out _ _ HP2.out).mono ?_
  rintro e w3 ⟨v3, rfl, hr3, hb3⟩
  have HR3 := Lib.hid (hr3.mono HB2.out.size)
  have HB3 : Hid (Below w.heap.size w w3) := Lib.hid (HB2.out.trans (hb3.mono HB2.out.size)); clear hb3 hr3
  go_wp2
  go_ret2
  exact ⟨_, rfl, HR3.out, HB3.out⟩
theorem key_InverseComplete (q : Int) (l_f : List Int) (b_f : l_f.length ≤ 1048576) : ∃ (r : List Int) (o : Bool), r.length ≤ 1048576 ∧ (∀ (w : World) (v_f : Value) (_ : Sl w v_f l_f), Calls Try.prog 21 #[.int .i64 q, v_f] w fun e w' => ∃ v, e = .returned (.tuple #[v, .bool o]) ∧ Row w' w.heap.size v r ∧ Below w.heap.size w w') ∧
      (∀ (w : World) (v_f : Value) (_ : Sl w v_f l_f), Calls Try.prog 22 #[.int .i64 q, v_f] w fun e w' => ∃ v, e = .returned (.tuple #[v, .bool o]) ∧ Row w' w.heap.size v r ∧ Below w.heap.size w w') := by
  cases h : cpl q l_f with
  | false => exact ⟨[], false, by simp, fun w v hv => (spec_InverseComplete_no q v l_f w hv b_f h).mono fun _ _ ⟨he, hb⟩ => ⟨_, he, Row.nil _ _, hb⟩, fun w v hv => (impl_InverseComplete_no q v l_f w hv b_f h).mono fun _ _ ⟨he, hb⟩ => ⟨_, he, Row.nil _ _, hb⟩⟩
  | true =>
    obtain ⟨m, rfl, hs, hg, hc⟩ := cpl_nat h
    have hq := isSz_le (m : Int) hs
    refine ⟨_, true, ?_, fun w v hv => spec_InverseComplete_yes m v l_f w hs hv hg hc, fun w v hv => impl_InverseComplete_yes m v l_f w hs hv hg hc⟩
    unfold ptl; rw [fl_len]; have := sn_le (ipl m (inv (tbl m l_f) m) m) m; omega
set_option maxRecDepth 100000 in
set_option maxHeartbeats 4000000 in
/-- laws.FnExactInverseComplete. -/
theorem walk_FnExactInverseComplete (q : Int) (a_f : Option Addr) (n_f c_f : Nat) (z_f : List Int) (w : World) (_h_q : (Lit.int .i64 q).wf = true) (h_f : IsRow .i64 w a_f n_f c_f z_f) :
    Calls Try.prog 5 #[.int .i64 q, .slice a_f n_f c_f] w fun e w' => e = .returned (.bool true) ∧ Below w.heap.size w w' := by
  clear _h_q
  obtain ⟨hs_f, hl_f, _⟩ := h_f.sl
  generalize z_f.take n_f = l_f at *
  clear h_f
  subst hl_f
  by_cases b_f : l_f.length ≤ 1048576
  rotate_left
  · have hn_f : (1048576 : Int) < (l_f.length : Int) := by omega
    go_enter Try.func5, Try.ntmps5
    go_wp2
    go_ret
    exact ⟨rfl, Below.refl _ _⟩
  have hn_f : ¬ (1048576 : Int) < (l_f.length : Int) := by omega
  obtain ⟨r, o, hr, k1, k2⟩ := key_InverseComplete q l_f b_f
  have K1 := Lib.hid k1; clear k1
  have K2 := Lib.hid k2; clear k2
  have HS_f := Lib.hid hs_f; clear hs_f
  have HB0 : Hid (Below w.heap.size w w) := Lib.hid (Below.refl _ _)
  go_enter Try.func5, Try.ntmps5
  go_wp2_with fail
  refine (toIntS_any _ l_f _ (HS_f.out.below HB0.out (Nat.le_refl _)) b_f).mono ?_
  rintro e w1 ⟨v_s_f, rfl, hrw1, hbw1⟩
  have hzw1 : w.heap.size ≤ w1.heap.size := hbw1.size
  have HBw1 : Hid (Below w.heap.size w w1) := Lib.hid (HB0.out.trans (hbw1.mono HB0.out.size))
  have hww1 := HBw1.out.size
  clear hbw1 HB0
  have R_s_f_w1 := Lib.hid hrw1; clear hrw1
  have lt_s_f : Hid (∀ g, v_s_f.ownBlock = some g → w.heap.size ≤ g ∧ g < w1.heap.size) := Lib.hid R_s_f_w1.out.lt
  go_wp2_with fail
  refine (K1.out _ v_s_f R_s_f_w1.out.sl).mono ?_
  rintro e w2 ⟨v_sp, rfl, hrw2, hbw2⟩
  have hzw2 : w1.heap.size ≤ w2.heap.size := hbw2.size
  have R_s_f_w2 := Lib.hid (R_s_f_w1.out.below hbw2)
  clear R_s_f_w1
  have HBw2 : Hid (Below w.heap.size w w2) := Lib.hid (HBw1.out.trans (hbw2.mono HBw1.out.size))
  have hww2 := HBw2.out.size
  clear hbw2 HBw1
  have R_sp_w2 := Lib.hid hrw2; clear hrw2
  have lt_sp : Hid (∀ g, v_sp.ownBlock = some g → w1.heap.size ≤ g ∧ g < w2.heap.size) := Lib.hid R_sp_w2.out.lt
  clear R_s_f_w2 lt_s_f
  go_wp2_with fail
  refine (toIntS_any _ l_f _ (HS_f.out.below HBw2.out (Nat.le_refl _)) b_f).mono ?_
  rintro e w3 ⟨v_x_f, rfl, hrw3, hbw3⟩
  have hzw3 : w2.heap.size ≤ w3.heap.size := hbw3.size
  have R_sp_w3 := Lib.hid (R_sp_w2.out.below hbw3)
  clear R_sp_w2
  have HBw3 : Hid (Below w.heap.size w w3) := Lib.hid (HBw2.out.trans (hbw3.mono HBw2.out.size))
  have hww3 := HBw3.out.size
  clear hbw3 HBw2
  have R_x_f_w3 := Lib.hid hrw3; clear hrw3
  have lt_x_f : Hid (∀ g, v_x_f.ownBlock = some g → w2.heap.size ≤ g ∧ g < w3.heap.size) := Lib.hid R_x_f_w3.out.lt
  go_wp2_with fail
  refine (K2.out _ v_x_f R_x_f_w3.out.sl).mono ?_
  rintro e w4 ⟨v_im, rfl, hrw4, hbw4⟩
  have hzw4 : w3.heap.size ≤ w4.heap.size := hbw4.size
  have R_sp_w4 := Lib.hid (R_sp_w3.out.below hbw4)
  clear R_sp_w3
  have R_x_f_w4 := Lib.hid (R_x_f_w3.out.below hbw4)
  clear R_x_f_w3
  have HBw4 : Hid (Below w.heap.size w w4) := Lib.hid (HBw3.out.trans (hbw4.mono HBw3.out.size))
  have hww4 := HBw4.out.size
  clear hbw4 HBw3
  have R_im_w4 := Lib.hid hrw4; clear hrw4
  have lt_im : Hid (∀ g, v_im.ownBlock = some g → w3.heap.size ≤ g ∧ g < w4.heap.size) := Lib.hid R_im_w4.out.lt
  go_wp2_with fail
  refine (eq_same v_im v_sp r _ _ _ R_im_w4.out R_sp_w4.out (by omega)).mono ?_
  rintro e w5 ⟨rfl, hbw5⟩
  have hzw5 : w4.heap.size ≤ w5.heap.size := hbw5.size
  have R_sp_w5 := Lib.hid (R_sp_w4.out.below hbw5)
  clear R_sp_w4
  have R_x_f_w5 := Lib.hid (R_x_f_w4.out.below hbw5)
  clear R_x_f_w4
  have R_im_w5 := Lib.hid (R_im_w4.out.below hbw5)
  clear R_im_w4
  have HBw5 : Hid (Below w.heap.size w w5) := Lib.hid (HBw4.out.trans (hbw5.mono HBw4.out.size))
  have hww5 := HBw5.out.size
  clear hbw5 HBw4
  go_wp2_with fail
  refine (toIntS_any _ l_f _ (HS_f.out.below HBw5.out (Nat.le_refl _)) b_f).mono ?_
  rintro e w6 ⟨v_y_f, rfl, hrw6, hbw6⟩
  have hzw6 : w5.heap.size ≤ w6.heap.size := hbw6.size
  have R_sp_w6 := Lib.hid (R_sp_w5.out.below hbw6)
  clear R_sp_w5
  have R_x_f_w6 := Lib.hid (R_x_f_w5.out.below hbw6)
  clear R_x_f_w5
  have R_im_w6 := Lib.hid (R_im_w5.out.below hbw6)
  clear R_im_w5
  have HBw6 : Hid (Below w.heap.size w w6) := Lib.hid (HBw5.out.trans (hbw6.mono HBw5.out.size))
  have hww6 := HBw6.out.size
  clear hbw6 HBw5
  have R_y_f_w6 := Lib.hid hrw6; clear hrw6
  have lt_y_f : Hid (∀ g, v_y_f.ownBlock = some g → w5.heap.size ≤ g ∧ g < w6.heap.size) := Lib.hid R_y_f_w6.out.lt
  go_wp2_with fail
  refine (eq_same v_x_f v_y_f l_f _ _ _ R_x_f_w6.out R_y_f_w6.out (by omega)).mono ?_
  rintro e w7 ⟨rfl, hbw7⟩
  have hzw7 : w6.heap.size ≤ w7.heap.size := hbw7.size
  have R_sp_w7 := Lib.hid (R_sp_w6.out.below hbw7)
  clear R_sp_w6
  have R_x_f_w7 := Lib.hid (R_x_f_w6.out.below hbw7)
  clear R_x_f_w6
  have R_im_w7 := Lib.hid (R_im_w6.out.below hbw7)
  clear R_im_w6
  have R_y_f_w7 := Lib.hid (R_y_f_w6.out.below hbw7)
  clear R_y_f_w6
  have HBw7 : Hid (Below w.heap.size w w7) := Lib.hid (HBw6.out.trans (hbw7.mono HBw6.out.size))
  have hww7 := HBw7.out.size
  clear hbw7 HBw6
  clear R_y_f_w7 lt_y_f
  go_wp2_with fail
  refine (mark_any v_x_f l_f _ (1) _ R_x_f_w7.out (by omega) (by omega) (by omega)).mono ?_
  rintro e w8 ⟨rfl, hrw8, hgw8⟩
  have hzw8 : w7.heap.size ≤ w8.heap.size := hgw8.size
  have R_sp_w8 := Lib.hid (R_sp_w7.out.keep (w' := w8) fun g hg => hgw8.block g (R_sp_w7.out.lt g hg).2 fun e => by have h1 := lt_sp.out g hg; have h2 := lt_x_f.out g e.symm; omega)
  clear R_sp_w7
  have R_im_w8 := Lib.hid (R_im_w7.out.keep (w' := w8) fun g hg => hgw8.block g (R_im_w7.out.lt g hg).2 fun e => by have h1 := lt_im.out g hg; have h2 := lt_x_f.out g e.symm; omega)
  clear R_im_w7
  have HBw8 : Hid (Below w.heap.size w w8) := Lib.hid (Below.grown HBw7.out hgw8 (by omega) (fun g e => by have h2 := lt_x_f.out g e; omega))
  have hww8 := HBw8.out.size
  have R_x_f_w8 := Lib.hid hrw8
  clear hrw8 hgw8 HBw7 R_x_f_w7
  clear R_x_f_w8 lt_x_f
  have hpos : ¬ (1 + (l_f.length : Int)) < (0 : Int) := by omega
  go_wp2_with fail
  refine (eq_same v_im v_sp r _ _ _ R_im_w8.out R_sp_w8.out (by omega)).mono ?_
  rintro e w9 ⟨rfl, hbw9⟩
  have hzw9 : w8.heap.size ≤ w9.heap.size := hbw9.size
  have R_sp_w9 := Lib.hid (R_sp_w8.out.below hbw9)
  clear R_sp_w8
  have R_im_w9 := Lib.hid (R_im_w8.out.below hbw9)
  clear R_im_w8
  have HBw9 : Hid (Below w.heap.size w w9) := Lib.hid (HBw8.out.trans (hbw9.mono HBw8.out.size))
  have hww9 := HBw9.out.size
  clear hbw9 HBw8
  go_wp2_with fail
  refine (mark_any v_im r _ (1) _ R_im_w9.out (by omega) (by omega) (by omega)).mono ?_
  rintro e w10 ⟨rfl, hrw10, hgw10⟩
  have hzw10 : w9.heap.size ≤ w10.heap.size := hgw10.size
  have R_sp_w10 := Lib.hid (R_sp_w9.out.keep (w' := w10) fun g hg => hgw10.block g (R_sp_w9.out.lt g hg).2 fun e => by have h1 := lt_sp.out g hg; have h2 := lt_im.out g e.symm; omega)
  clear R_sp_w9
  have HBw10 : Hid (Below w.heap.size w w10) := Lib.hid (Below.grown HBw9.out hgw10 (by omega) (fun g e => by have h2 := lt_im.out g e; omega))
  have hww10 := HBw10.out.size
  have R_im_w10 := Lib.hid hrw10
  clear hrw10 hgw10 HBw9 R_im_w9
  go_wp2_with fail
  refine (held_any v_im r.length _ (1) _ R_im_w10.out (by omega) (by omega) (by omega)).mono ?_
  rintro e wx1 ⟨rfl, rfl⟩
  go_wp2_with fail
  refine (toIntS_any _ l_f _ (HS_f.out.below HBw10.out (Nat.le_refl _)) b_f).mono ?_
  rintro e w11 ⟨v_t_f, rfl, hrw11, hbw11⟩
  have hzw11 : w10.heap.size ≤ w11.heap.size := hbw11.size
  have R_sp_w11 := Lib.hid (R_sp_w10.out.below hbw11)
  clear R_sp_w10
  have R_im_w11 := Lib.hid (R_im_w10.out.below hbw11)
  clear R_im_w10
  have HBw11 : Hid (Below w.heap.size w w11) := Lib.hid (HBw10.out.trans (hbw11.mono HBw10.out.size))
  have hww11 := HBw11.out.size
  clear hbw11 HBw10
  have R_t_f_w11 := Lib.hid hrw11; clear hrw11
  have lt_t_f : Hid (∀ g, v_t_f.ownBlock = some g → w10.heap.size ≤ g ∧ g < w11.heap.size) := Lib.hid R_t_f_w11.out.lt
  go_wp2_with fail
  refine (K2.out _ v_t_f R_t_f_w11.out.sl).mono ?_
  rintro e w12 ⟨v_im2, rfl, hrw12, hbw12⟩
  have hzw12 : w11.heap.size ≤ w12.heap.size := hbw12.size
  have R_sp_w12 := Lib.hid (R_sp_w11.out.below hbw12)
  clear R_sp_w11
  have R_im_w12 := Lib.hid (R_im_w11.out.below hbw12)
  clear R_im_w11
  have R_t_f_w12 := Lib.hid (R_t_f_w11.out.below hbw12)
  clear R_t_f_w11
  have HBw12 : Hid (Below w.heap.size w w12) := Lib.hid (HBw11.out.trans (hbw12.mono HBw11.out.size))
  have hww12 := HBw12.out.size
  clear hbw12 HBw11
  have R_im2_w12 := Lib.hid hrw12; clear hrw12
  have lt_im2 : Hid (∀ g, v_im2.ownBlock = some g → w11.heap.size ≤ g ∧ g < w12.heap.size) := Lib.hid R_im2_w12.out.lt
  clear R_t_f_w12 lt_t_f
  go_wp2_with fail
  refine (eq_same v_im2 v_sp r _ _ _ R_im2_w12.out R_sp_w12.out (by omega)).mono ?_
  rintro e w13 ⟨rfl, hbw13⟩
  have hzw13 : w12.heap.size ≤ w13.heap.size := hbw13.size
  have R_sp_w13 := Lib.hid (R_sp_w12.out.below hbw13)
  clear R_sp_w12
  have R_im_w13 := Lib.hid (R_im_w12.out.below hbw13)
  clear R_im_w12
  have R_im2_w13 := Lib.hid (R_im2_w12.out.below hbw13)
  clear R_im2_w12
  have HBw13 : Hid (Below w.heap.size w w13) := Lib.hid (HBw12.out.trans (hbw13.mono HBw12.out.size))
  have hww13 := HBw13.out.size
  clear hbw13 HBw12
  go_wp2_with fail
  refine (held_any v_im r.length _ (1) _ R_im_w13.out (by omega) (by omega) (by omega)).mono ?_
  rintro e wx2 ⟨rfl, rfl⟩
  go_wp2
  go_ret
  exact ⟨rfl, HBw13.out⟩
/-- What undoes a table with x added, with a minus. -/
def ngi (m : Nat) (t : Nat → Int) : Nat → Int := fun y => subF m 0 (inv (cmt m t) m y)
theorem ngi_el {m : Nat} {t : Nat → Int} (h : isSz (m : Int) = true) (i : Nat) : El (m : Int) (ngi m t i) := by
  have hq := isSz_le (m : Int) h
  have hi : El (m : Int) (inv (cmt m t) m i) := inv_lt (by omega)
  exact subF_bd (m : Int) 0 _ h (Int.le_refl _) (El.zero h).2 hi.1 hi.2
theorem spec_NegatedInverse_no (q : Int) (v : Value) (l : List Int) (w : World) (hv : Sl w v l) (hl : l.length ≤ 1048576) (hg : cpl q l = false) :
    Calls Try.prog 23 #[.int .i64 q, v] w fun e w' => e = .returned (.tuple #[.slice none 0 0, .bool false]) ∧ Below w.heap.size w w' := by
  have HP := Lib.hid (cmGiven_no q v l w hv hl hg)
  clear hg hv hl
  go_enter Try.func23, Try.ntmps23
  go_wp2_with fail
  refine HP.out.mono ?_
  rintro e w1 ⟨v1, rfl, hb1⟩
  have hz_hb1 := hb1.size; (try simp at hz_hb1)
  have HB1 := Lib.hid hb1; clear hb1
  go_wp2_with fail
  go_ret2
  have hb1 := HB1.out
  exact ⟨rfl, by (repeat' (first | (with_reducible assumption) | (with_reducible exact Below.refl _ _) | (with_reducible refine below_drewN ?_ _) | (with_reducible refine Below.drew ?_) | (with_reducible refine Below.alloc ?_ ?_ _) | (with_reducible refine Below.setCell ?_ ?_ _) | (with_reducible refine Below.trans ?_ (Below.mono (by assumption) ?_)) | (with_reducible exact Nat.le_refl _) | (with_reducible assumption) | omega | (simp; omega) | (simp; done)))⟩
theorem impl_NegatedInverse_no (q : Int) (v : Value) (l : List Int) (w : World) (hv : Sl w v l) (hl : l.length ≤ 1048576) (hg : cpl q l = false) :
    Calls Try.prog 24 #[.int .i64 q, v] w fun e w' => e = .returned (.tuple #[.slice none 0 0, .bool false]) ∧ Below w.heap.size w w' := by
  have HP := Lib.hid (vcp_no q v l w hv hl hg)
  clear hg hv hl
  go_enter Try.func24, Try.ntmps24
  go_wp2_with fail
  refine HP.out.mono ?_
  rintro e w1 ⟨rfl, hb1⟩
  have hz_hb1 := hb1.size; (try simp at hz_hb1)
  have HB1 := Lib.hid hb1; clear hb1
  go_wp2_with fail
  go_ret2
  have hb1 := HB1.out
  exact ⟨rfl, by (repeat' (first | (with_reducible assumption) | (with_reducible exact Below.refl _ _) | (with_reducible refine below_drewN ?_ _) | (with_reducible refine Below.drew ?_) | (with_reducible refine Below.alloc ?_ ?_ _) | (with_reducible refine Below.setCell ?_ ?_ _) | (with_reducible refine Below.trans ?_ (Below.mono (by assumption) ?_)) | (with_reducible exact Nat.le_refl _) | (with_reducible assumption) | omega | (simp; omega) | (simp; done)))⟩
set_option maxRecDepth 100000 in
set_option maxHeartbeats 4000000 in
theorem spec_NegatedInverse_yes (m : Nat) (v : Value) (l : List Int) (w : World) (h : isSz (m : Int) = true) (hv : Sl w v l) (hg : good (m : Int) l = true) (hc : cpt m (tbl m l) = true) :
    Calls Try.prog 23 #[.int .i64 m, v] w fun e w' => ∃ v', e = .returned (.tuple #[v', .bool true]) ∧ Row w' w.heap.size v' (ptl m (ngi m (tbl m l))) ∧ Below w.heap.size w w' := by
  obtain ⟨i0, hi, iz0, iz1, iz2⟩ := info_parts Try.infoI
  have hq := isSz_le (m : Int) h
  have hG := cmGiven_any m v l w h hv hg
  rw [hc] at hG
  have HP := Lib.hid hG
  have hte := tbl_el h hg
  have hne := fun i (hi : i < m) => ngi_el (t := tbl m l) h i
  have HC := Lib.hid (fun v' w' (hs : Sl w' v' (fl (tbl m l) m)) => cmPlus_any m v' (tbl m l) w' h hs hte)
  have HU := Lib.hid (fun v' w' (hs : Sl w' v' (fl (cmt m (tbl m l)) m)) => cmUndo_any m v' (cmt m (tbl m l)) w' h hs (cmt_el h hte) (cpt_parts hc).2)
  have HL := Lib.hid (fun (x : Nat) w => fdLess_any (m : Int) 0 (inv (cmt m (tbl m l)) m x) w h (Int.le_refl _) (El.zero h).2 (inv_lt (t := cmt m (tbl m l)) (m := m) (y := x) (by omega)).1 (inv_lt (t := cmt m (tbl m l)) (m := m) (y := x) (by omega)).2)
  have HD : Hid (∀ x : Nat, subF m 0 (inv (cmt m (tbl m l)) m x) = ngi m (tbl m l) x) := Lib.hid fun _ => rfl
  have HF := Lib.hid (fun v' w' (hs : Sl w' v' (fl (ngi m (tbl m l)) m)) => by
    have := plFromT m v' (ngi m (tbl m l)) w' h hs hne
    rw [ftl_ptl h hne] at this
    exact this)
  have HSUC := Lib.hid (fl_succ (ngi m (tbl m l)))
  clear hG hg hv h hc hte hne
  generalize ptl m (ngi m (tbl m l)) = r at *
  generalize ngi m (tbl m l) = D at *
  generalize inv (cmt m (tbl m l)) m = t at *
  generalize cmt m (tbl m l) = t1 at *
  generalize tbl m l = t0 at *
  go_enter Try.func23, Try.ntmps23
  go_wp2_with fail
  refine HP.out.mono ?_
  rintro e w3 ⟨v3, rfl, hr3, hb3⟩
  have HR3 := Lib.hid hr3
  have HB3 := Lib.hid hb3; clear hb3 hr3
  go_wp2_with fail
  refine (HC.out _ _ HR3.out.sl).mono ?_
  rintro e w4 ⟨v4, rfl, hr4, hb4⟩
  have HR4 := Lib.hid hr4
  have HB4 : Hid (Below w.heap.size w w4) := Lib.hid (HB3.out.trans (hb4.mono HB3.out.size)); clear hb4 hr4
  go_wp2_with fail
  refine (HU.out _ _ HR4.out.sl).mono ?_
  rintro e w5 ⟨v5, rfl, hr5, hb5⟩
  obtain ⟨b, off, cap, rfl, hb, hcc⟩ := hr5.sl.open (n := m) (by rw [fl_len]) (by omega)
  have HB5 : Hid (Below w.heap.size w w5) := Lib.hid (HB4.out.trans (hb5.mono HB4.out.size)); clear hb5 hr5
  have HC5 : Hid (∀ w', Below w5.heap.size w5 w' → ∀ j, j < m → w'.cell? ⟨b, off + j, none⟩ = some (.int .i64 (t j))) := Lib.hid fun w' hbw j hj => by
    rw [hbw.cell (p := ⟨b, off + j, none⟩) hb, hcc j hj, fl_get _ _ _ hj]
  have hz5 := HB5.out.size
  clear hcc HC HU
  go_wp2_with fail
  go_loopw [8, 24] (fun vo vi wr => ∃ i : Nat, i ≤ m ∧ vi = .int .i64 i ∧ Row wr w5.heap.size vo (fl D i) ∧ Below w5.heap.size w5 wr) (fun _ vi _ => m - (intOf vi).toNat)
  case atStart => exact ⟨0, Nat.zero_le _, rfl, Row.nil _ _, Below.refl _ _⟩
  case round =>
    obtain ⟨i, hin, rfl, hr, hbw⟩ := hrel
    have HR := Lib.hid hr; clear hr
    have hz := hbw.size
    have HBW := Lib.hid hbw; clear hbw
    by_cases hlt : i < m
    · have hci := HC5.out _ HBW.out i hlt
      have hbl : b < wr.heap.size := by omega
      have HPi := Lib.hid (fun w => HL.out i w)
      have HSi := Lib.hid (HSUC.out i)
      have HDi := HD.out i
      rw [HDi] at HPi
      clear HDi
      generalize t i = x at *
      generalize D i = z at *
      go_wp2_with fail
      refine (HPi.out _).mono ?_
      rintro e w2 ⟨rfl, hb2⟩
      have hz_hb2 := hb2.size; (try simp at hz_hb2)
      have HB2 := Lib.hid hb2; clear hb2
      have HBW2 : Hid (Below w5.heap.size w5 w2) := Lib.hid (by have hb0 := HBW.out; have hb1 := HB2.out; (repeat' (first | (with_reducible assumption) | (with_reducible exact Below.refl _ _) | (with_reducible refine below_drewN ?_ _) | (with_reducible refine Below.drew ?_) | (with_reducible refine Below.alloc ?_ ?_ _) | (with_reducible refine Below.setCell ?_ ?_ _) | (with_reducible refine Below.trans ?_ (Below.mono (by assumption) ?_)) | (with_reducible exact Nat.le_refl _) | (with_reducible assumption) | omega | (simp; omega) | (simp; done))))
      have HR2 := Lib.hid (HR.out.below HB2.out)
      go_wp2_with (at_builtin; refine wpList_append_own _ rfl _ _ 22 rfl w5.heap.size 3 i0 (.int .i64 0) 1 8 Try.underlying22 hi iz0 iz1 iz2 rfl (by decide) _ _ _ rfl (World.ownsRow.alloc HR2.out _) ⟨w2.heap.size, 0, none⟩ 1 1 [.int .i64 z] rfl rfl ?c1 ?c2 ?c3 ?c4 ?c5 ?_)
      case c1 => exact cell_one_new _ _ _
      case c2 => first | rfl | (intro u hu; simp at hu; subst hu; rfl)
      case c3 => rw [fl_len]; unfold maxLen; omega
      case c4 => rw [fl_len]; omega
      case c5 => first | omega | (simp; omega)
      intro v' w6 hown hgrow _
      have HR6 := Lib.hid (Row.appended hown)
      have hb6 : Below w5.heap.size w5 (w2.alloc (.cells #[.int .i64 z] 3)) := HBW2.out.alloc (by have := HBW2.out.size; omega) _
      have HB6 := Lib.hid (hb6.grown hgrow (by have := HBW2.out.size; simp; omega) (fun g hg => (HR2.out.lt g hg).1))
      clear hown hgrow hb6
      go_wp2
      go_roundw
      case rel => exact ⟨i + 1, by omega, by go_num, by rw [HSi.out]; exact HR6.out, HB6.out⟩
      case measure => simp [intOf]; omega
    · obtain rfl : m = i := by omega
      go_wp2_with fail
      refine (HF.out _ _ HR.out.sl).mono ?_
      rintro e w7 ⟨v7, rfl, hr7, hb7⟩
      have HR7 := Lib.hid hr7
      have HB7 := Lib.hid hb7; clear hb7 hr7
      go_wp2
      go_ret2
      exact ⟨_, rfl, HR7.out.mono (by omega), HB5.out.trans ((HBW.out.mono hz5).trans (HB7.out.mono (by omega)))⟩
set_option maxRecDepth 100000 in
set_option maxHeartbeats 4000000 in
/-- impl.poly.negatedInverse. -/
theorem negatedInverseT (m : Nat) (v : Value) (t : Nat → Int) (w : World) (h : isSz (m : Int) = true) (hv : IsP w v m t) (hd : dis (cmt m t) m = true) :
    Calls Try.prog 54 #[polyE (m : Int) v] w fun e w' => ∃ v', e = .returned (polyE (m : Int) v') ∧ IsP w' v' m (ngi m t) ∧ Below w.heap.size w w' := by
  have hq := isSz_le (m : Int) h
  have HX := Lib.hid (fun w' (hb : Below w.heap.size w w') => plusXT m v t w' h (hv.below hb (Nat.le_refl _)))
  have HI := Lib.hid (fun v' w' (hp : IsP w' v' m (cmt m t)) => inverseT m v' (cmt m t) w' h hp hd)
  have HON := Lib.hid (fun w => oneE (m : Int) w h)
  have HNG := Lib.hid (fun w => negE (m : Int) 1 w h (El.one h).1 (El.one h).2)
  have hs := subF_bd (m : Int) 0 1 h (Int.le_refl _) (El.zero h).2 (El.one h).1 (El.one h).2
  have HS : Hid (∀ v' w', IsP w' v' m (inv (cmt m t) m) → Calls Try.prog 98 #[polyE (m : Int) v', elE (m : Int) (subF m 0 1)] w' fun e w'' => ∃ v'', e = .returned (polyE (m : Int) v'') ∧ IsP w'' v'' m (ngi m t) ∧ Below w'.heap.size w' w'') := Lib.hid fun v' w' hp =>
    (scaledT m (subF m 0 1) v' (inv (cmt m t) m) w' h hp hs).mono fun e w'' ⟨v'', h1, h2, h3⟩ => ⟨v'', h1, h2.like fun a ha => neg_one_mul h (inv_lt (by omega)), h3⟩
  obtain ⟨a0, k0, c0, rfl⟩ := hv.slice
  clear h hv hd hs
  generalize ngi m t = D at *
  generalize inv (cmt m t) m = I at *
  generalize cmt m t = u at *
  generalize subF (m : Int) 0 1 = s at *
  go_enter Try.func54, Try.ntmps54
  go_wp2_with fail
  have HT := Lib.hid (two w (pblk (m : Int) (.slice a0 k0 c0)) pzblk).2
  have HKEEP : Hid (∀ w', Below (w.heap.size + 1) (w.alloc (pblk (m : Int) (.slice a0 k0 c0))) w' → w'.cell? ⟨w.heap.size, 0, none⟩ = some (.int .i64 m) ∧ w'.cell? ⟨w.heap.size, 1, none⟩ = some (.int .i64 (pr m)) ∧ w'.cell? ⟨w.heap.size, 2, none⟩ = some (.int .i64 (pl m)) ∧ w'.cell? ⟨w.heap.size, 3, none⟩ = some (.slice a0 k0 c0)) := Lib.hid fun w' hb => by
    obtain ⟨x0, x1, x2, x3, _⟩ := cells4 ((hb.block _ (by omega)).trans (heap_alloc_new w _))
    exact ⟨x0, x1, x2, x3⟩
  go_region_held3 (fun w' => w'.cell? ⟨w.heap.size, 0, none⟩ = some (.int .i64 m) ∧ w'.cell? ⟨w.heap.size, 1, none⟩ = some (.int .i64 (pr m)) ∧ w'.cell? ⟨w.heap.size, 2, none⟩ = some (.int .i64 (pl m)) ∧ w'.cell? ⟨w.heap.size, 3, none⟩ = some (.slice a0 k0 c0))
    (exact HKEEP.out _ (by (try have hb3 := HB3.out); (try have hb4 := HB4.out); (try have hb5 := HB5.out); (try have hb6 := HB6.out); (try have hb7 := HB7.out); (repeat' (first | (with_reducible assumption) | (with_reducible exact Below.refl _ _) | (with_reducible refine below_drewN ?_ _) | (with_reducible refine Below.drew ?_) | (with_reducible refine Below.alloc ?_ ?_ _) | (with_reducible refine Below.setCell ?_ ?_ _) | (with_reducible refine Below.trans ?_ (Below.mono (by assumption) ?_)) | (with_reducible exact Nat.le_refl _) | (with_reducible assumption) | omega | (simp; omega) | (simp; done)))))
    (first
    | (go_at_call 47; refine (HX.out _ (by (repeat' (first | (with_reducible assumption) | (with_reducible exact Below.refl _ _) | (with_reducible refine below_drewN ?_ _) | (with_reducible refine Below.drew ?_) | (with_reducible refine Below.alloc ?_ ?_ _) | (with_reducible refine Below.setCell ?_ ?_ _) | (with_reducible refine Below.trans ?_ (Below.mono (by assumption) ?_)) | (with_reducible exact Nat.le_refl _) | (with_reducible assumption) | omega | (simp; omega) | (simp; done))))).mono ?_; rintro e w3 ⟨v3, rfl, hp3, hb3⟩; obtain ⟨a3, k3, c3, rfl⟩ := hp3.slice; have HP3 := Lib.hid hp3; clear hp3; obtain ⟨hc3, hf3⟩ := bcell hb3; (try simp only [World.size_drew] at hc3 hf3); have hz3 := hb3.size; (try simp at hz3); have HB3 := Lib.hid hb3; clear hb3; have l3 : w.heap.size + 1 < w3.heap.size := (by omega))
    | (go_at_call 52; refine (HI.out _ _ HP3.out).mono ?_; rintro e w4 ⟨v4, rfl, hp4, hb4⟩; obtain ⟨a4, k4, c4, rfl⟩ := hp4.slice; have HP4 := Lib.hid hp4; clear hp4; obtain ⟨hc4, hf4⟩ := bcell hb4; (try simp only [World.size_drew] at hc4 hf4); have hz4 := hb4.size; (try simp at hz4); have HB4 := Lib.hid hb4; clear hb4; have l4 : w.heap.size + 1 < w4.heap.size := (by omega))
    | (go_at_call 78; refine (HON.out _).mono ?_; rintro e w5 ⟨rfl, hb5⟩; obtain ⟨hc5, hf5⟩ := bcell hb5; (try simp only [World.size_drew] at hc5 hf5); have hz5 := hb5.size; (try simp at hz5); have HB5 := Lib.hid hb5; clear hb5; have l5 : w.heap.size + 1 < w5.heap.size := (by omega))
    | (go_at_call 99; refine (HNG.out _).mono ?_; rintro e w6 ⟨rfl, hb6⟩; obtain ⟨hc6, hf6⟩ := bcell hb6; (try simp only [World.size_drew] at hc6 hf6); have hz6 := hb6.size; (try simp at hz6); have HB6 := Lib.hid hb6; clear hb6; have l6 : w.heap.size + 1 < w6.heap.size := (by omega))
    | (go_at_call 98; refine (HS.out _ _ (HP4.out.below (B := w4.heap.size) (by have hb5 := HB5.out; have hb6 := HB6.out; (repeat' (first | (with_reducible assumption) | (with_reducible exact Below.refl _ _) | (with_reducible refine below_drewN ?_ _) | (with_reducible refine Below.drew ?_) | (with_reducible refine Below.alloc ?_ ?_ _) | (with_reducible refine Below.setCell ?_ ?_ _) | (with_reducible refine Below.trans ?_ (Below.mono (by assumption) ?_)) | (with_reducible exact Nat.le_refl _) | (with_reducible assumption) | omega | (simp; omega) | (simp; done)))) (Nat.le_refl _))).mono ?_; rintro e w7 ⟨v7, rfl, hp7, hb7⟩; obtain ⟨a7, k7, c7, rfl⟩ := hp7.slice; have HP7 := Lib.hid hp7; clear hp7; obtain ⟨hc7, hf7⟩ := bcell hb7; (try simp only [World.size_drew] at hc7 hf7); have hz7 := hb7.size; (try simp at hz7); have HB7 := Lib.hid hb7; clear hb7; have l7 : w.heap.size + 1 < w7.heap.size := (by omega)))
  all_goals
    go_wp2_with fail
    have hb3 := HB3.out
    have hb4 := HB4.out
    have hb5 := HB5.out
    have hb6 := HB6.out
    have hb7 := HB7.out
    have hr : w7.heap[w.heap.size + 1]? = some pzblk := (Below.block (B := w.heap.size + 2) (w := (w.alloc (pblk (m : Int) (.slice a0 k0 c0))).alloc pzblk) (by (repeat' (first | (with_reducible assumption) | (with_reducible exact Below.refl _ _) | (with_reducible refine below_drewN ?_ _) | (with_reducible refine Below.drew ?_) | (with_reducible refine Below.alloc ?_ ?_ _) | (with_reducible refine Below.setCell ?_ ?_ _) | (with_reducible refine Below.trans ?_ (Below.mono (by assumption) ?_)) | (with_reducible exact Nat.le_refl _) | (with_reducible assumption) | omega | (simp; omega) | (simp; done)))) (w.heap.size + 1) (by omega)).trans HT.out
    obtain ⟨r0, r1, r2, r3, rf, rl0⟩ := cells4 hr
    refine bodyPost_ret (v := polyE (m : Int) (.slice a7 k7 c7)) (by simp [results, Try.results54, go_sem, r0, r1, r2, r3]) rfl ⟨_, rfl, ?_, ?_⟩
    · exact HP7.out.over3 hr (fun k hk => by (repeat' (first | (with_reducible rfl) | (with_reducible refine (heap_setCell_other _ _ _ _ ?_).trans ?_) | (with_reducible refine (drew_heap' _ _).trans ?_) | exact hk))) (by simp)
    · (repeat' (first | (with_reducible assumption) | (with_reducible exact Below.refl _ _) | (with_reducible refine below_drewN ?_ _) | (with_reducible refine Below.drew ?_) | (with_reducible refine Below.alloc ?_ ?_ _) | (with_reducible refine Below.setCell ?_ ?_ _) | (with_reducible refine Below.trans ?_ (Below.mono (by assumption) ?_)) | (with_reducible exact Nat.le_refl _) | (with_reducible assumption) | omega | (simp; omega) | (simp; done)))
set_option maxRecDepth 100000 in
set_option maxHeartbeats 4000000 in
theorem impl_NegatedInverse_yes (m : Nat) (v : Value) (l : List Int) (w : World) (h : isSz (m : Int) = true) (hv : Sl w v l) (hg : good (m : Int) l = true) (hc : cpt m (tbl m l) = true) :
    Calls Try.prog 24 #[.int .i64 m, v] w fun e w' => ∃ v', e = .returned (.tuple #[v', .bool true]) ∧ Row w' w.heap.size v' (ptl m (ngi m (tbl m l))) ∧ Below w.heap.size w w' := by
  have HP := Lib.hid (vcp_T m v l w h hv hg hc)
  have HD := Lib.hid (fun v' w' (hp : IsP w' v' m (tbl m l)) => negatedInverseT m v' (tbl m l) w' h hp (cpt_parts hc).2)
  have HN := Lib.hid (fun v' w' (hp : IsP w' v' m (ngi m (tbl m l))) => numbersT m v' (ngi m (tbl m l)) w' h hp)
  clear h hv hg hc
  generalize ptl m (ngi m (tbl m l)) = r at *
  generalize ngi m (tbl m l) = D at *
  generalize tbl m l = t at *
  go_enter Try.func24, Try.ntmps24
  go_wp2_with fail
  refine HP.out.mono ?_
  rintro e w1 ⟨v1, rfl, hp1, hb1⟩
  obtain ⟨a1, k1, c1, rfl⟩ := hp1.slice
  have HP1 := Lib.hid hp1; clear hp1
  have hz_hb1 := hb1.size; (try simp at hz_hb1)
  have HB1 := Lib.hid hb1; clear hb1
  go_wp2_with fail
  refine (HD.out _ _ (HP1.out.below (B := w1.heap.size) (by (repeat' (first | (with_reducible assumption) | (with_reducible exact Below.refl _ _) | (with_reducible refine below_drewN ?_ _) | (with_reducible refine Below.drew ?_) | (with_reducible refine Below.alloc ?_ ?_ _) | (with_reducible refine Below.setCell ?_ ?_ _) | (with_reducible refine Below.trans ?_ (Below.mono (by assumption) ?_)) | (with_reducible exact Nat.le_refl _) | (with_reducible assumption) | omega | (simp; omega) | (simp; done)))) (Nat.le_refl _))).mono ?_
  rintro e w2 ⟨v2, rfl, hp2, hb2⟩
  have HP2 := Lib.hid hp2; clear hp2
  have HB2 : Hid (Below w.heap.size w w2) := Lib.hid (by have hb1 := HB1.out; (repeat' (first | (with_reducible assumption) | (with_reducible exact Below.refl _ _) | (with_reducible refine below_drewN ?_ _) | (with_reducible refine Below.drew ?_) | (with_reducible refine Below.alloc ?_ ?_ _) | (with_reducible refine Below.setCell ?_ ?_ _) | (with_reducible refine Below.trans ?_ (Below.mono (by assumption) ?_)) | (with_reducible exact Nat.le_refl _) | (with_reducible assumption) | omega | (simp; omega) | (simp; done)))); clear hb2
  go_wp2_with fail
  refine (HN.out _ _ HP2.out).mono ?_
  rintro e w3 ⟨v3, rfl, hr3, hb3⟩
  have HR3 := Lib.hid (hr3.mono HB2.out.size)
  have HB3 : Hid (Below w.heap.size w w3) := Lib.hid (HB2.out.trans (hb3.mono HB2.out.size)); clear hb3 hr3
  go_wp2
  go_ret2
  exact ⟨_, rfl, HR3.out, HB3.out⟩
theorem key_NegatedInverse (q : Int) (l_f : List Int) (b_f : l_f.length ≤ 1048576) : ∃ (r : List Int) (o : Bool), r.length ≤ 1048576 ∧ (∀ (w : World) (v_f : Value) (_ : Sl w v_f l_f), Calls Try.prog 23 #[.int .i64 q, v_f] w fun e w' => ∃ v, e = .returned (.tuple #[v, .bool o]) ∧ Row w' w.heap.size v r ∧ Below w.heap.size w w') ∧
      (∀ (w : World) (v_f : Value) (_ : Sl w v_f l_f), Calls Try.prog 24 #[.int .i64 q, v_f] w fun e w' => ∃ v, e = .returned (.tuple #[v, .bool o]) ∧ Row w' w.heap.size v r ∧ Below w.heap.size w w') := by
  cases h : cpl q l_f with
  | false => exact ⟨[], false, by simp, fun w v hv => (spec_NegatedInverse_no q v l_f w hv b_f h).mono fun _ _ ⟨he, hb⟩ => ⟨_, he, Row.nil _ _, hb⟩, fun w v hv => (impl_NegatedInverse_no q v l_f w hv b_f h).mono fun _ _ ⟨he, hb⟩ => ⟨_, he, Row.nil _ _, hb⟩⟩
  | true =>
    obtain ⟨m, rfl, hs, hg, hc⟩ := cpl_nat h
    have hq := isSz_le (m : Int) hs
    refine ⟨_, true, ?_, fun w v hv => spec_NegatedInverse_yes m v l_f w hs hv hg hc, fun w v hv => impl_NegatedInverse_yes m v l_f w hs hv hg hc⟩
    unfold ptl; rw [fl_len]; have := sn_le (ipl m (ngi m (tbl m l_f)) m) m; omega
set_option maxRecDepth 100000 in
set_option maxHeartbeats 4000000 in
/-- laws.FnExactNegatedInverse. -/
theorem walk_FnExactNegatedInverse (q : Int) (a_f : Option Addr) (n_f c_f : Nat) (z_f : List Int) (w : World) (_h_q : (Lit.int .i64 q).wf = true) (h_f : IsRow .i64 w a_f n_f c_f z_f) :
    Calls Try.prog 6 #[.int .i64 q, .slice a_f n_f c_f] w fun e w' => e = .returned (.bool true) ∧ Below w.heap.size w w' := by
  clear _h_q
  obtain ⟨hs_f, hl_f, _⟩ := h_f.sl
  generalize z_f.take n_f = l_f at *
  clear h_f
  subst hl_f
  by_cases b_f : l_f.length ≤ 1048576
  rotate_left
  · have hn_f : (1048576 : Int) < (l_f.length : Int) := by omega
    go_enter Try.func6, Try.ntmps6
    go_wp2
    go_ret
    exact ⟨rfl, Below.refl _ _⟩
  have hn_f : ¬ (1048576 : Int) < (l_f.length : Int) := by omega
  obtain ⟨r, o, hr, k1, k2⟩ := key_NegatedInverse q l_f b_f
  have K1 := Lib.hid k1; clear k1
  have K2 := Lib.hid k2; clear k2
  have HS_f := Lib.hid hs_f; clear hs_f
  have HB0 : Hid (Below w.heap.size w w) := Lib.hid (Below.refl _ _)
  go_enter Try.func6, Try.ntmps6
  go_wp2_with fail
  refine (toIntS_any _ l_f _ (HS_f.out.below HB0.out (Nat.le_refl _)) b_f).mono ?_
  rintro e w1 ⟨v_s_f, rfl, hrw1, hbw1⟩
  have hzw1 : w.heap.size ≤ w1.heap.size := hbw1.size
  have HBw1 : Hid (Below w.heap.size w w1) := Lib.hid (HB0.out.trans (hbw1.mono HB0.out.size))
  have hww1 := HBw1.out.size
  clear hbw1 HB0
  have R_s_f_w1 := Lib.hid hrw1; clear hrw1
  have lt_s_f : Hid (∀ g, v_s_f.ownBlock = some g → w.heap.size ≤ g ∧ g < w1.heap.size) := Lib.hid R_s_f_w1.out.lt
  go_wp2_with fail
  refine (K1.out _ v_s_f R_s_f_w1.out.sl).mono ?_
  rintro e w2 ⟨v_sp, rfl, hrw2, hbw2⟩
  have hzw2 : w1.heap.size ≤ w2.heap.size := hbw2.size
  have R_s_f_w2 := Lib.hid (R_s_f_w1.out.below hbw2)
  clear R_s_f_w1
  have HBw2 : Hid (Below w.heap.size w w2) := Lib.hid (HBw1.out.trans (hbw2.mono HBw1.out.size))
  have hww2 := HBw2.out.size
  clear hbw2 HBw1
  have R_sp_w2 := Lib.hid hrw2; clear hrw2
  have lt_sp : Hid (∀ g, v_sp.ownBlock = some g → w1.heap.size ≤ g ∧ g < w2.heap.size) := Lib.hid R_sp_w2.out.lt
  clear R_s_f_w2 lt_s_f
  go_wp2_with fail
  refine (toIntS_any _ l_f _ (HS_f.out.below HBw2.out (Nat.le_refl _)) b_f).mono ?_
  rintro e w3 ⟨v_x_f, rfl, hrw3, hbw3⟩
  have hzw3 : w2.heap.size ≤ w3.heap.size := hbw3.size
  have R_sp_w3 := Lib.hid (R_sp_w2.out.below hbw3)
  clear R_sp_w2
  have HBw3 : Hid (Below w.heap.size w w3) := Lib.hid (HBw2.out.trans (hbw3.mono HBw2.out.size))
  have hww3 := HBw3.out.size
  clear hbw3 HBw2
  have R_x_f_w3 := Lib.hid hrw3; clear hrw3
  have lt_x_f : Hid (∀ g, v_x_f.ownBlock = some g → w2.heap.size ≤ g ∧ g < w3.heap.size) := Lib.hid R_x_f_w3.out.lt
  go_wp2_with fail
  refine (K2.out _ v_x_f R_x_f_w3.out.sl).mono ?_
  rintro e w4 ⟨v_im, rfl, hrw4, hbw4⟩
  have hzw4 : w3.heap.size ≤ w4.heap.size := hbw4.size
  have R_sp_w4 := Lib.hid (R_sp_w3.out.below hbw4)
  clear R_sp_w3
  have R_x_f_w4 := Lib.hid (R_x_f_w3.out.below hbw4)
  clear R_x_f_w3
  have HBw4 : Hid (Below w.heap.size w w4) := Lib.hid (HBw3.out.trans (hbw4.mono HBw3.out.size))
  have hww4 := HBw4.out.size
  clear hbw4 HBw3
  have R_im_w4 := Lib.hid hrw4; clear hrw4
  have lt_im : Hid (∀ g, v_im.ownBlock = some g → w3.heap.size ≤ g ∧ g < w4.heap.size) := Lib.hid R_im_w4.out.lt
  go_wp2_with fail
  refine (eq_same v_im v_sp r _ _ _ R_im_w4.out R_sp_w4.out (by omega)).mono ?_
  rintro e w5 ⟨rfl, hbw5⟩
  have hzw5 : w4.heap.size ≤ w5.heap.size := hbw5.size
  have R_sp_w5 := Lib.hid (R_sp_w4.out.below hbw5)
  clear R_sp_w4
  have R_x_f_w5 := Lib.hid (R_x_f_w4.out.below hbw5)
  clear R_x_f_w4
  have R_im_w5 := Lib.hid (R_im_w4.out.below hbw5)
  clear R_im_w4
  have HBw5 : Hid (Below w.heap.size w w5) := Lib.hid (HBw4.out.trans (hbw5.mono HBw4.out.size))
  have hww5 := HBw5.out.size
  clear hbw5 HBw4
  go_wp2_with fail
  refine (toIntS_any _ l_f _ (HS_f.out.below HBw5.out (Nat.le_refl _)) b_f).mono ?_
  rintro e w6 ⟨v_y_f, rfl, hrw6, hbw6⟩
  have hzw6 : w5.heap.size ≤ w6.heap.size := hbw6.size
  have R_sp_w6 := Lib.hid (R_sp_w5.out.below hbw6)
  clear R_sp_w5
  have R_x_f_w6 := Lib.hid (R_x_f_w5.out.below hbw6)
  clear R_x_f_w5
  have R_im_w6 := Lib.hid (R_im_w5.out.below hbw6)
  clear R_im_w5
  have HBw6 : Hid (Below w.heap.size w w6) := Lib.hid (HBw5.out.trans (hbw6.mono HBw5.out.size))
  have hww6 := HBw6.out.size
  clear hbw6 HBw5
  have R_y_f_w6 := Lib.hid hrw6; clear hrw6
  have lt_y_f : Hid (∀ g, v_y_f.ownBlock = some g → w5.heap.size ≤ g ∧ g < w6.heap.size) := Lib.hid R_y_f_w6.out.lt
  go_wp2_with fail
  refine (eq_same v_x_f v_y_f l_f _ _ _ R_x_f_w6.out R_y_f_w6.out (by omega)).mono ?_
  rintro e w7 ⟨rfl, hbw7⟩
  have hzw7 : w6.heap.size ≤ w7.heap.size := hbw7.size
  have R_sp_w7 := Lib.hid (R_sp_w6.out.below hbw7)
  clear R_sp_w6
  have R_x_f_w7 := Lib.hid (R_x_f_w6.out.below hbw7)
  clear R_x_f_w6
  have R_im_w7 := Lib.hid (R_im_w6.out.below hbw7)
  clear R_im_w6
  have R_y_f_w7 := Lib.hid (R_y_f_w6.out.below hbw7)
  clear R_y_f_w6
  have HBw7 : Hid (Below w.heap.size w w7) := Lib.hid (HBw6.out.trans (hbw7.mono HBw6.out.size))
  have hww7 := HBw7.out.size
  clear hbw7 HBw6
  clear R_y_f_w7 lt_y_f
  go_wp2_with fail
  refine (mark_any v_x_f l_f _ (1) _ R_x_f_w7.out (by omega) (by omega) (by omega)).mono ?_
  rintro e w8 ⟨rfl, hrw8, hgw8⟩
  have hzw8 : w7.heap.size ≤ w8.heap.size := hgw8.size
  have R_sp_w8 := Lib.hid (R_sp_w7.out.keep (w' := w8) fun g hg => hgw8.block g (R_sp_w7.out.lt g hg).2 fun e => by have h1 := lt_sp.out g hg; have h2 := lt_x_f.out g e.symm; omega)
  clear R_sp_w7
  have R_im_w8 := Lib.hid (R_im_w7.out.keep (w' := w8) fun g hg => hgw8.block g (R_im_w7.out.lt g hg).2 fun e => by have h1 := lt_im.out g hg; have h2 := lt_x_f.out g e.symm; omega)
  clear R_im_w7
  have HBw8 : Hid (Below w.heap.size w w8) := Lib.hid (Below.grown HBw7.out hgw8 (by omega) (fun g e => by have h2 := lt_x_f.out g e; omega))
  have hww8 := HBw8.out.size
  have R_x_f_w8 := Lib.hid hrw8
  clear hrw8 hgw8 HBw7 R_x_f_w7
  clear R_x_f_w8 lt_x_f
  have hpos : ¬ (1 + (l_f.length : Int)) < (0 : Int) := by omega
  go_wp2_with fail
  refine (eq_same v_im v_sp r _ _ _ R_im_w8.out R_sp_w8.out (by omega)).mono ?_
  rintro e w9 ⟨rfl, hbw9⟩
  have hzw9 : w8.heap.size ≤ w9.heap.size := hbw9.size
  have R_sp_w9 := Lib.hid (R_sp_w8.out.below hbw9)
  clear R_sp_w8
  have R_im_w9 := Lib.hid (R_im_w8.out.below hbw9)
  clear R_im_w8
  have HBw9 : Hid (Below w.heap.size w w9) := Lib.hid (HBw8.out.trans (hbw9.mono HBw8.out.size))
  have hww9 := HBw9.out.size
  clear hbw9 HBw8
  go_wp2_with fail
  refine (mark_any v_im r _ (1) _ R_im_w9.out (by omega) (by omega) (by omega)).mono ?_
  rintro e w10 ⟨rfl, hrw10, hgw10⟩
  have hzw10 : w9.heap.size ≤ w10.heap.size := hgw10.size
  have R_sp_w10 := Lib.hid (R_sp_w9.out.keep (w' := w10) fun g hg => hgw10.block g (R_sp_w9.out.lt g hg).2 fun e => by have h1 := lt_sp.out g hg; have h2 := lt_im.out g e.symm; omega)
  clear R_sp_w9
  have HBw10 : Hid (Below w.heap.size w w10) := Lib.hid (Below.grown HBw9.out hgw10 (by omega) (fun g e => by have h2 := lt_im.out g e; omega))
  have hww10 := HBw10.out.size
  have R_im_w10 := Lib.hid hrw10
  clear hrw10 hgw10 HBw9 R_im_w9
  go_wp2_with fail
  refine (held_any v_im r.length _ (1) _ R_im_w10.out (by omega) (by omega) (by omega)).mono ?_
  rintro e wx1 ⟨rfl, rfl⟩
  go_wp2_with fail
  refine (toIntS_any _ l_f _ (HS_f.out.below HBw10.out (Nat.le_refl _)) b_f).mono ?_
  rintro e w11 ⟨v_t_f, rfl, hrw11, hbw11⟩
  have hzw11 : w10.heap.size ≤ w11.heap.size := hbw11.size
  have R_sp_w11 := Lib.hid (R_sp_w10.out.below hbw11)
  clear R_sp_w10
  have R_im_w11 := Lib.hid (R_im_w10.out.below hbw11)
  clear R_im_w10
  have HBw11 : Hid (Below w.heap.size w w11) := Lib.hid (HBw10.out.trans (hbw11.mono HBw10.out.size))
  have hww11 := HBw11.out.size
  clear hbw11 HBw10
  have R_t_f_w11 := Lib.hid hrw11; clear hrw11
  have lt_t_f : Hid (∀ g, v_t_f.ownBlock = some g → w10.heap.size ≤ g ∧ g < w11.heap.size) := Lib.hid R_t_f_w11.out.lt
  go_wp2_with fail
  refine (K2.out _ v_t_f R_t_f_w11.out.sl).mono ?_
  rintro e w12 ⟨v_im2, rfl, hrw12, hbw12⟩
  have hzw12 : w11.heap.size ≤ w12.heap.size := hbw12.size
  have R_sp_w12 := Lib.hid (R_sp_w11.out.below hbw12)
  clear R_sp_w11
  have R_im_w12 := Lib.hid (R_im_w11.out.below hbw12)
  clear R_im_w11
  have R_t_f_w12 := Lib.hid (R_t_f_w11.out.below hbw12)
  clear R_t_f_w11
  have HBw12 : Hid (Below w.heap.size w w12) := Lib.hid (HBw11.out.trans (hbw12.mono HBw11.out.size))
  have hww12 := HBw12.out.size
  clear hbw12 HBw11
  have R_im2_w12 := Lib.hid hrw12; clear hrw12
  have lt_im2 : Hid (∀ g, v_im2.ownBlock = some g → w11.heap.size ≤ g ∧ g < w12.heap.size) := Lib.hid R_im2_w12.out.lt
  clear R_t_f_w12 lt_t_f
  go_wp2_with fail
  refine (eq_same v_im2 v_sp r _ _ _ R_im2_w12.out R_sp_w12.out (by omega)).mono ?_
  rintro e w13 ⟨rfl, hbw13⟩
  have hzw13 : w12.heap.size ≤ w13.heap.size := hbw13.size
  have R_sp_w13 := Lib.hid (R_sp_w12.out.below hbw13)
  clear R_sp_w12
  have R_im_w13 := Lib.hid (R_im_w12.out.below hbw13)
  clear R_im_w12
  have R_im2_w13 := Lib.hid (R_im2_w12.out.below hbw13)
  clear R_im2_w12
  have HBw13 : Hid (Below w.heap.size w w13) := Lib.hid (HBw12.out.trans (hbw13.mono HBw12.out.size))
  have hww13 := HBw13.out.size
  clear hbw13 HBw12
  go_wp2_with fail
  refine (held_any v_im r.length _ (1) _ R_im_w13.out (by omega) (by omega) (by omega)).mono ?_
  rintro e wx2 ⟨rfl, rfl⟩
  go_wp2
  go_ret
  exact ⟨rfl, HBw13.out⟩
end Go.Proofs.Ytimpgbifnijkkaa
