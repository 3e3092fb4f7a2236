/- No element twice, of the model; DoesPermute, of both, by contracts; the walk of its law. -/
import Derived.Test.YtljijnanmpajaaaGreatLC
namespace Go.Proofs.YtljijnanmpajaaaGreat
open Go.RowKit
theorem Row.capv {w : World} {B : Nat} {v : Value} {l : List Int} (h : Row w B v l) : ∀ a k cap, v = .slice a k cap → k ≤ cap := by
  intro a k cap e
  subst e
  by_cases hl : 0 < l.length
  · obtain ⟨g, c, e, _, _⟩ := h.form hl
    cases e
    exact h.cap
  · obtain rfl : l = [] := List.length_eq_zero_iff.1 (by omega)
    obtain ⟨a, c, e⟩ := h.empty
    cases e
    exact Nat.zero_le _
theorem impl_DoesPermute_no (q : Int) (v : Value) (l : List Int) (w : World) (hv : Sl w v l) (hl : l.length ≤ 1048576) (hg : (isSz q && good q l) = false) :
    Calls Tryz.prog 150 #[.int .i64 q, v] w fun e w' => e = .returned (.tuple #[.bool false, .bool false]) ∧ Below w.heap.size w w' := by
  have HP := Lib.hid (validPoly_no q v l w hv hl hg)
  clear hg hv hl
  go_enter Tryz.func150, Tryz.ntmps150
  go_wp2_with fail
  refine HP.out.mono ?_
  rintro e w1 ⟨rfl, hb1⟩
  have hz_hb1 := hb1.size; (try simp at hz_hb1)
  have HB1 := Lib.hid hb1; clear hb1
  go_wp2_with fail
  go_ret2
  have hb1 := HB1.out
  exact ⟨rfl, by (repeat' (first | (with_reducible assumption) | (with_reducible exact Below.refl _ _) | (with_reducible refine below_drewN ?_ _) | (with_reducible refine Below.drew ?_) | (with_reducible refine Below.alloc ?_ ?_ _) | (with_reducible refine Below.setCell ?_ ?_ _) | (with_reducible refine Below.trans ?_ (Below.mono (by assumption) ?_)) | (with_reducible exact Nat.le_refl _) | (with_reducible assumption) | omega | (simp; omega) | (simp; done)))⟩
set_option maxHeartbeats 2000000 in
theorem impl_DoesPermute_yes (m : Nat) (v : Value) (l : List Int) (w : World) (h : isSz (m : Int) = true) (hv : Sl w v l) (hg : good (m : Int) l = true) :
    Calls Tryz.prog 150 #[.int .i64 m, v] w fun e w' => e = .returned (.tuple #[.bool (dis (tabF (m : Int) (fun i => l.getD i 0) l.length) m), .bool true]) ∧ Below w.heap.size w w' := by
  have hq := isSz_le (m : Int) h
  have hlen := (good_parts hg).1
  have hf := all_el h (good_parts hg).2
  have HP := Lib.hid (validPoly_yes (m : Int) v l w h hv hg)
  have HT := Lib.hid (fun (g1 : Nat) w' (hgl1 : g1 < w'.heap.size) (he1 : Els w' g1 (m : Int) (fun i => l.getD i 0) l.length) => permutesE m g1 l.length l.length (fun i => l.getD i 0) w' h hgl1 he1 hf (by omega))
  rw [dis_onto (fun i hi => tab_el h hf i hi)]
  clear hg hv h hf
  generalize (tabF (m : Int) (fun i => l.getD i 0) l.length) = t at *
  generalize (fun i => l.getD i 0) = f at *
  generalize l.length = n at *
  go_enter Tryz.func150, Tryz.ntmps150
  go_wp2_with fail
  refine HP.out.mono ?_
  rintro e w1 ⟨g1, rfl, hgg1, hk1', he1, hb1⟩
  have hgl1 := hk1'.lt
  have HE1 := Lib.hid he1; clear he1 hk1'
  have hz_hb1 := hb1.size; (try simp at hz_hb1)
  have HB1 := Lib.hid hb1; clear hb1
  go_wp2_with fail
  refine (HT.out g1 _ (by simp; omega) (HE1.out.below (B := w1.heap.size) (by (repeat' (first | (with_reducible assumption) | (with_reducible exact Below.refl _ _) | (with_reducible refine below_drewN ?_ _) | (with_reducible refine Below.drew ?_) | (with_reducible refine Below.alloc ?_ ?_ _) | (with_reducible refine Below.setCell ?_ ?_ _) | (with_reducible refine Below.trans ?_ (Below.mono (by assumption) ?_)) | (with_reducible exact Nat.le_refl _) | (with_reducible assumption) | omega | (simp; omega) | (simp; done)))) hgl1)).mono ?_
  rintro e w2 ⟨rfl, hb2⟩
  have hz_hb2 := hb2.size; (try simp at hz_hb2)
  have HB2 := Lib.hid hb2; clear hb2
  go_wp2
  go_ret2
  have hb1 := HB1.out
  have hb2 := HB2.out
  exact ⟨rfl, by (repeat' (first | (with_reducible assumption) | (with_reducible exact Below.refl _ _) | (with_reducible refine below_drewN ?_ _) | (with_reducible refine Below.drew ?_) | (with_reducible refine Below.alloc ?_ ?_ _) | (with_reducible refine Below.setCell ?_ ?_ _) | (with_reducible refine Below.trans ?_ (Below.mono (by assumption) ?_)) | (with_reducible exact Nat.le_refl _) | (with_reducible assumption) | omega | (simp; omega) | (simp; done)))⟩
end Go.Proofs.YtljijnanmpajaaaGreat
