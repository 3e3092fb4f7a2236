/- Polynomials that permute, of both: pePermutes, validPermuting; InversePoly; the walk of its law. -/
import Derived.Test.YtimpgbifnijkkaaLD
import Derived.Test.YtimpgbifnijkkaaLJ
namespace Go.Proofs.Ytimpgbifnijkkaa
open Go.RowKit
/-- A polynomial that permutes. -/
def prm (q : Int) (l : List Int) : Bool := (isSz q && good q l) && dis (tabF q (fun i => l.getD i 0) l.length) q.toNat
theorem prm_nat {m : Nat} {l : List Int} (h : prm (m : Int) l = true) : isSz (m : Int) = true ∧ good (m : Int) l = true ∧ dis (tabF (m : Int) (fun i => l.getD i 0) l.length) m = true := by
  simpa [prm, Bool.and_eq_true, and_assoc] using h
theorem prm_size {q : Int} {l : List Int} (h : prm q l = true) : ∃ m : Nat, q = (m : Int) := by
  have h1 : isSz q = true := by
    simp only [prm, Bool.and_eq_true] at h
    exact h.1.1
  have := isSz_le q h1
  exact Int.eq_ofNat_of_zero_le (by omega)
set_option maxHeartbeats 2000000 in
theorem vpm_yes (m : Nat) (v : Value) (l : List Int) (w : World) (h : isSz (m : Int) = true) (hv : Sl w v l) (hg : good (m : Int) l = true) (hd : dis (tabF (m : Int) (fun i => l.getD i 0) l.length) m = true) :
    Calls Try.prog 80 #[.int .i64 m, v] w fun e w' => ∃ g, e = .returned (.tuple #[polyE (m : Int) (.slice (some ⟨g, 0, none⟩) l.length l.length), .bool true]) ∧ w.heap.size ≤ g ∧ g < w'.heap.size ∧ Els w' g (m : Int) (fun i => l.getD i 0) l.length ∧ Below w.heap.size w w' := by
  have hq := isSz_le (m : Int) h
  have hlen := (good_parts hg).1
  have hf := all_el h (good_parts hg).2
  have HP := Lib.hid (fun w' (hb : Below w.heap.size w w') => validPoly_yes (m : Int) v l w' h (hv.below hb (Nat.le_refl _)) hg)
  have HPM := Lib.hid (fun (g1 : Nat) w' (hgl1 : g1 < w'.heap.size) (he1 : Els w' g1 (m : Int) (fun i => l.getD i 0) l.length) => by
    have := permutesE m g1 l.length l.length (fun i => l.getD i 0) w' h hgl1 he1 hf (by omega)
    rw [← dis_onto (fun i hi => tab_el h hf i hi), hd] at this
    exact this)
  clear h hv hg hd hf
  generalize (fun i => l.getD i 0) = f at *
  generalize l.length = n at *
  go_enter Try.func80, Try.ntmps80
  go_wp2_with fail
  refine (HP.out _ (by (repeat' (first | (with_reducible assumption) | (with_reducible exact Below.refl _ _) | (with_reducible refine below_drewN ?_ _) | (with_reducible refine Below.drew ?_) | (with_reducible refine Below.alloc ?_ ?_ _) | (with_reducible refine Below.setCell ?_ ?_ _) | (with_reducible refine Below.trans ?_ (Below.mono (by assumption) ?_)) | (with_reducible exact Nat.le_refl _) | (with_reducible assumption) | omega | (simp; omega) | (simp; done))))).mono ?_
  rintro e w1 ⟨g, rfl, hgg, hk1, he1, hb1⟩
  simp at hgg
  have hgl := hk1.lt
  have HE1 := Lib.hid he1; clear he1 hk1
  obtain ⟨hc1, hf1⟩ := bcell hb1; have hz1 := hb1.size; (try simp at hz1); have HB1 := Lib.hid hb1; clear hb1
  have l1 : w.heap.size < w1.heap.size := by omega
  go_wp2_with fail
  refine (HPM.out g _ (by simp; omega) (HE1.out.below (B := w1.heap.size) (by (repeat' (first | (with_reducible assumption) | (with_reducible exact Below.refl _ _) | (with_reducible refine below_drewN ?_ _) | (with_reducible refine Below.drew ?_) | (with_reducible refine Below.alloc ?_ ?_ _) | (with_reducible refine Below.setCell ?_ ?_ _) | (with_reducible refine Below.trans ?_ (Below.mono (by assumption) ?_)) | (with_reducible exact Nat.le_refl _) | (with_reducible assumption) | omega | (simp; omega) | (simp; done)))) hgl)).mono ?_
  rintro e w2 ⟨rfl, hb2⟩
  obtain ⟨hc2, hf2⟩ := bcell hb2; have hz2 := hb2.size; (try simp at hz2); have HB2 := Lib.hid hb2; clear hb2
  have l2 : w.heap.size < w2.heap.size := by omega
  have l3 : w1.heap.size < w2.heap.size := by omega
  go_wp2_with fail
  have hb1 := HB1.out
  have hb2 := HB2.out
  have q0 : w2.heap[w.heap.size]? = some pzblk := (Below.block (B := w.heap.size + 1) (show Below (w.heap.size + 1) (w.alloc pzblk) w2 by (repeat' (first | (with_reducible assumption) | (with_reducible exact Below.refl _ _) | (with_reducible refine below_drewN ?_ _) | (with_reducible refine Below.drew ?_) | (with_reducible refine Below.alloc ?_ ?_ _) | (with_reducible refine Below.setCell ?_ ?_ _) | (with_reducible refine Below.trans ?_ (Below.mono (by assumption) ?_)) | (with_reducible exact Nat.le_refl _) | (with_reducible assumption) | omega | (simp; omega) | (simp; done)))) w.heap.size (by omega)).trans (heap_alloc_new w _)
  obtain ⟨s0, s1, s2, s3, sf, sl⟩ := cells4 q0
  clear q0
  refine bodyPost_ret (v := .tuple #[polyE (m : Int) (.slice (some ⟨g, 0, none⟩) n n), .bool true]) (by simp [results, Try.results80, go_sem, s0, s1, s2, s3]) rfl ⟨g, rfl, by omega, by simp; omega, ?_, ?_⟩
  · have hbw : Below w1.heap.size w1 w2 := by (repeat' (first | (with_reducible assumption) | (with_reducible exact Below.refl _ _) | (with_reducible refine below_drewN ?_ _) | (with_reducible refine Below.drew ?_) | (with_reducible refine Below.alloc ?_ ?_ _) | (with_reducible refine Below.setCell ?_ ?_ _) | (with_reducible refine Below.trans ?_ (Below.mono (by assumption) ?_)) | (with_reducible exact Nat.le_refl _) | (with_reducible assumption) | omega | (simp; omega) | (simp; done)))
    exact (HE1.out.below hbw hgl).same (put4_other _ _ _ _ _ (by omega))
  · exact put4_below (by (repeat' (first | (with_reducible assumption) | (with_reducible exact Below.refl _ _) | (with_reducible refine below_drewN ?_ _) | (with_reducible refine Below.drew ?_) | (with_reducible refine Below.alloc ?_ ?_ _) | (with_reducible refine Below.setCell ?_ ?_ _) | (with_reducible refine Below.trans ?_ (Below.mono (by assumption) ?_)) | (with_reducible exact Nat.le_refl _) | (with_reducible assumption) | omega | (simp; omega) | (simp; done)))) _ (Nat.le_refl _) _ _
set_option maxHeartbeats 2000000 in
theorem vpm_no2 (m : Nat) (v : Value) (l : List Int) (w : World) (h : isSz (m : Int) = true) (hv : Sl w v l) (hg : good (m : Int) l = true) (hd : dis (tabF (m : Int) (fun i => l.getD i 0) l.length) m = false) :
    Calls Try.prog 80 #[.int .i64 m, v] w fun e w' => e = .returned (.tuple #[polyZ, .bool false]) ∧ Below w.heap.size w w' := by
  have hq := isSz_le (m : Int) h
  have hlen := (good_parts hg).1
  have hf := all_el h (good_parts hg).2
  have HP := Lib.hid (fun w' (hb : Below w.heap.size w w') => validPoly_yes (m : Int) v l w' h (hv.below hb (Nat.le_refl _)) hg)
  have HPM := Lib.hid (fun (g1 : Nat) w' (hgl1 : g1 < w'.heap.size) (he1 : Els w' g1 (m : Int) (fun i => l.getD i 0) l.length) => by
    have := permutesE m g1 l.length l.length (fun i => l.getD i 0) w' h hgl1 he1 hf (by omega)
    rw [← dis_onto (fun i hi => tab_el h hf i hi), hd] at this
    exact this)
  clear h hv hg hd hf
  generalize (fun i => l.getD i 0) = f at *
  generalize l.length = n at *
  go_enter Try.func80, Try.ntmps80
  go_wp2_with fail
  refine (HP.out _ (by (repeat' (first | (with_reducible assumption) | (with_reducible exact Below.refl _ _) | (with_reducible refine below_drewN ?_ _) | (with_reducible refine Below.drew ?_) | (with_reducible refine Below.alloc ?_ ?_ _) | (with_reducible refine Below.setCell ?_ ?_ _) | (with_reducible refine Below.trans ?_ (Below.mono (by assumption) ?_)) | (with_reducible exact Nat.le_refl _) | (with_reducible assumption) | omega | (simp; omega) | (simp; done))))).mono ?_
  rintro e w1 ⟨g, rfl, hgg, hk1, he1, hb1⟩
  simp at hgg
  have hgl := hk1.lt
  have HE1 := Lib.hid he1; clear he1 hk1
  obtain ⟨hc1, hf1⟩ := bcell hb1; have hz1 := hb1.size; (try simp at hz1); have HB1 := Lib.hid hb1; clear hb1
  have l1 : w.heap.size < w1.heap.size := by omega
  go_wp2_with fail
  refine (HPM.out g _ (by simp; omega) (HE1.out.below (B := w1.heap.size) (by (repeat' (first | (with_reducible assumption) | (with_reducible exact Below.refl _ _) | (with_reducible refine below_drewN ?_ _) | (with_reducible refine Below.drew ?_) | (with_reducible refine Below.alloc ?_ ?_ _) | (with_reducible refine Below.setCell ?_ ?_ _) | (with_reducible refine Below.trans ?_ (Below.mono (by assumption) ?_)) | (with_reducible exact Nat.le_refl _) | (with_reducible assumption) | omega | (simp; omega) | (simp; done)))) hgl)).mono ?_
  rintro e w2 ⟨rfl, hb2⟩
  obtain ⟨hc2, hf2⟩ := bcell hb2; have hz2 := hb2.size; (try simp at hz2); have HB2 := Lib.hid hb2; clear hb2
  have l2 : w.heap.size < w2.heap.size := by omega
  have l3 : w1.heap.size < w2.heap.size := by omega
  go_wp2_with fail
  have hb1 := HB1.out
  have hb2 := HB2.out
  have q0 : w2.heap[w.heap.size]? = some pzblk := (Below.block (B := w.heap.size + 1) (show Below (w.heap.size + 1) (w.alloc pzblk) w2 by (repeat' (first | (with_reducible assumption) | (with_reducible exact Below.refl _ _) | (with_reducible refine below_drewN ?_ _) | (with_reducible refine Below.drew ?_) | (with_reducible refine Below.alloc ?_ ?_ _) | (with_reducible refine Below.setCell ?_ ?_ _) | (with_reducible refine Below.trans ?_ (Below.mono (by assumption) ?_)) | (with_reducible exact Nat.le_refl _) | (with_reducible assumption) | omega | (simp; omega) | (simp; done)))) w.heap.size (by omega)).trans (heap_alloc_new w _)
  obtain ⟨s0, s1, s2, s3, sf, sl⟩ := cells4 q0
  clear q0
  refine bodyPost_ret (v := .tuple #[polyZ, .bool false]) (by simp [results, Try.results80, go_sem, s0, s1, s2, s3]) rfl ⟨rfl, ?_⟩
  (repeat' (first | (with_reducible assumption) | (with_reducible exact Below.refl _ _) | (with_reducible refine below_drewN ?_ _) | (with_reducible refine Below.drew ?_) | (with_reducible refine Below.alloc ?_ ?_ _) | (with_reducible refine Below.setCell ?_ ?_ _) | (with_reducible refine Below.trans ?_ (Below.mono (by assumption) ?_)) | (with_reducible exact Nat.le_refl _) | (with_reducible assumption) | omega | (simp; omega) | (simp; done)))
theorem vpm_no1 (q : Int) (v : Value) (l : List Int) (w : World) (hv : Sl w v l) (hl : l.length ≤ 1048576) (hg : (isSz q && good q l) = false) :
    Calls Try.prog 80 #[.int .i64 q, v] w fun e w' => e = .returned (.tuple #[polyZ, .bool false]) ∧ Below w.heap.size w w' := by
  have HP := Lib.hid (fun w' (hb : Below w.heap.size w w') => validPoly_no q v l w' (hv.below hb (Nat.le_refl _)) hl hg)
  clear hg hv hl
  go_enter Try.func80, Try.ntmps80
  go_wp2_with fail
  refine (HP.out _ (by (repeat' (first | (with_reducible assumption) | (with_reducible exact Below.refl _ _) | (with_reducible refine below_drewN ?_ _) | (with_reducible refine Below.drew ?_) | (with_reducible refine Below.alloc ?_ ?_ _) | (with_reducible refine Below.setCell ?_ ?_ _) | (with_reducible refine Below.trans ?_ (Below.mono (by assumption) ?_)) | (with_reducible exact Nat.le_refl _) | (with_reducible assumption) | omega | (simp; omega) | (simp; done))))).mono ?_
  rintro e w1 ⟨rfl, hb1⟩
  obtain ⟨hc1, hf1⟩ := bcell hb1; have hz1 := hb1.size; (try simp at hz1); have HB1 := Lib.hid hb1; clear hb1
  have l1 : w.heap.size < w1.heap.size := by omega
  go_wp2_with fail
  have hb1 := HB1.out
  have q0 : w1.heap[w.heap.size]? = some pzblk := (Below.block (B := w.heap.size + 1) (show Below (w.heap.size + 1) (w.alloc pzblk) w1 by (repeat' (first | (with_reducible assumption) | (with_reducible exact Below.refl _ _) | (with_reducible refine below_drewN ?_ _) | (with_reducible refine Below.drew ?_) | (with_reducible refine Below.alloc ?_ ?_ _) | (with_reducible refine Below.setCell ?_ ?_ _) | (with_reducible refine Below.trans ?_ (Below.mono (by assumption) ?_)) | (with_reducible exact Nat.le_refl _) | (with_reducible assumption) | omega | (simp; omega) | (simp; done)))) w.heap.size (by omega)).trans (heap_alloc_new w _)
  obtain ⟨s0, s1, s2, s3, sf, sl⟩ := cells4 q0
  clear q0
  refine bodyPost_ret (v := .tuple #[polyZ, .bool false]) (by simp [results, Try.results80, go_sem, s0, s1, s2, s3, l1]) rfl ⟨rfl, ?_⟩
  (repeat' (first | (with_reducible assumption) | (with_reducible exact Below.refl _ _) | (with_reducible refine below_drewN ?_ _) | (with_reducible refine Below.drew ?_) | (with_reducible refine Below.alloc ?_ ?_ _) | (with_reducible refine Below.setCell ?_ ?_ _) | (with_reducible refine Below.trans ?_ (Below.mono (by assumption) ?_)) | (with_reducible exact Nat.le_refl _) | (with_reducible assumption) | omega | (simp; omega) | (simp; done)))
theorem vpm_no (q : Int) (v : Value) (l : List Int) (w : World) (hv : Sl w v l) (hl : l.length ≤ 1048576) (hg : prm q l = false) :
    Calls Try.prog 80 #[.int .i64 q, v] w fun e w' => e = .returned (.tuple #[polyZ, .bool false]) ∧ Below w.heap.size w w' := by
  cases hs : isSz q && good q l with
  | false => exact vpm_no1 q v l w hv hl hs
  | true =>
    have hs2 := hs
    simp only [Bool.and_eq_true] at hs2
    have hq := isSz_le q hs2.1
    obtain ⟨m, rfl⟩ := Int.eq_ofNat_of_zero_le (show 0 ≤ q by omega)
    unfold prm at hg
    rw [hs] at hg
    exact vpm_no2 m v l w hs2.1 hv hs2.2 (by simpa using hg)
end Go.Proofs.Ytimpgbifnijkkaa
