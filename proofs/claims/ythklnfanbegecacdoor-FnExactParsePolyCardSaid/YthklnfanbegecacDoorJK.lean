/- The walk of the law of ParsePoly. -/
import Derived.Test.YthklnfanbegecacDoorJJ
namespace Go.Proofs.YthklnfanbegecacDoor
open Go.RowKit
set_option maxRecDepth 100000 in
set_option maxHeartbeats 4000000 in
/-- laws.FnExactParsePoly. -/
theorem walk_FnExactParsePoly (q : Int) (s : ByteArray) (w : World) (G : Gl w) :
    Calls Tryd.prog 3 #[.int .i64 q, .string s] w fun e w' => e = .returned (.bool true) ∧ Below w.heap.size w w' := by
  by_cases b_s : s.size ≤ 1048576
  rotate_left
  · have hn_s : (1048576 : Int) < (s.size : Int) := by omega
    go_enter Tryd.func3, Tryd.ntmps3
    go_wp2
    go_ret
    exact ⟨rfl, Below.refl _ _⟩
  have hn_s : ¬ (1048576 : Int) < (s.size : Int) := by omega
  obtain ⟨l, o, hr, k1, k2⟩ := key_ParsePoly q s.data.toList (by have := Lib.size_eq s; omega)
  rw [← of_data s] at k1 k2
  have K1 := Lib.hid k1; clear k1
  have K2 := Lib.hid (fun w' (hb : Below w.heap.size w w') => k2 w' (G.below hb (Nat.le_refl _))); clear k2
  go_enter Tryd.func3, Tryd.ntmps3
  go_wp2_with fail
  refine (K1.out _).mono ?_
  rintro e w1 ⟨v1, rfl, hr1, hb1⟩
  have hz_hb1 := hb1.size; (try simp at hz_hb1)
  have HR1 := Lib.hid hr1; clear hr1
  have HB1 := Lib.hid hb1; clear hb1
  go_wp2_with fail
  refine (K2.out _ HB1.out).mono ?_
  rintro e w2 ⟨v2, rfl, hr2, hb2⟩
  have hz_hb2 := hb2.size; (try simp at hz_hb2)
  have HR1b := Lib.hid (HR1.out.below hb2)
  have HR2 := Lib.hid hr2; clear hr2
  have HB2 := Lib.hid hb2; clear hb2
  go_wp2_with fail
  refine (eq_same v2 v1 l _ _ _ HR2.out HR1b.out (by omega)).mono ?_
  rintro e w3 ⟨rfl, hb3⟩
  have hz_hb3 := hb3.size; (try simp at hz_hb3)
  have HR1c := Lib.hid (HR1b.out.below hb3)
  have HR2c := Lib.hid (HR2.out.below hb3)
  have HB3 := Lib.hid hb3; clear hb3
  go_wp2_with fail
  refine (mark_any v2 l _ 1 _ HR2c.out (by omega) (by decide) (by decide)).mono ?_
  rintro e w4 ⟨rfl, hr4, hg4⟩
  have hz4 := hg4.size
  have HR1d := Lib.hid (HR1c.out.keep (w' := w4) fun g hg => hg4.block g (HR1c.out.lt g hg).2 fun e => by have h1 := (HR1.out.lt g hg).2; have h2 := (HR2c.out.lt g e.symm).1; omega)
  have HB4 : Hid (Below w.heap.size w w4) := Lib.hid (Below.grown (by have hb1 := HB1.out; have hb2 := HB2.out; have hb3 := HB3.out; (repeat' (first | (with_reducible assumption) | (with_reducible exact Below.refl _ _) | (with_reducible refine below_drewN ?_ _) | (with_reducible refine Below.drew ?_) | (with_reducible refine Below.alloc ?_ ?_ _) | (with_reducible refine Below.setCell ?_ ?_ _) | (with_reducible refine Below.trans ?_ (Below.mono (by assumption) ?_)) | (with_reducible exact Nat.le_refl _) | (with_reducible assumption) | omega | (simp; omega) | (simp; done)))) hg4 (by omega) (fun g e => by have := (HR2c.out.lt g e).1; omega))
  have HR4 := Lib.hid hr4; clear hr4
  clear hg4
  go_wp2_with fail
  refine (held_any v2 l.length _ 1 _ HR4.out (by omega) (by decide) (by decide)).mono ?_
  rintro e w5 ⟨rfl, rfl⟩
  go_wp2_with fail
  refine (K2.out _ HB4.out).mono ?_
  rintro e w6 ⟨v6, rfl, hr6, hb6⟩
  have hz_hb6 := hb6.size; (try simp at hz_hb6)
  have HR1e := Lib.hid (HR1d.out.below hb6)
  have HR4e := Lib.hid (HR4.out.below hb6)
  have HR6 := Lib.hid hr6; clear hr6
  have HB6 := Lib.hid hb6; clear hb6
  go_wp2_with fail
  refine (eq_same v6 v1 l _ _ _ HR6.out HR1e.out (by omega)).mono ?_
  rintro e w7 ⟨rfl, hb7⟩
  have hz_hb7 := hb7.size; (try simp at hz_hb7)
  have HR4f := Lib.hid (HR4e.out.below hb7)
  have HB7 := Lib.hid hb7; clear hb7
  go_wp2_with fail
  refine (held_any v2 l.length _ 1 _ HR4f.out (by omega) (by decide) (by decide)).mono ?_
  rintro e w8 ⟨rfl, rfl⟩
  go_wp2
  go_ret
  have hb4 := HB4.out
  have hb6 := HB6.out
  have hb7 := HB7.out
  exact ⟨rfl, by (repeat' (first | (with_reducible assumption) | (with_reducible exact Below.refl _ _) | (with_reducible refine below_drewN ?_ _) | (with_reducible refine Below.drew ?_) | (with_reducible refine Below.alloc ?_ ?_ _) | (with_reducible refine Below.setCell ?_ ?_ _) | (with_reducible refine Below.trans ?_ (Below.mono (by assumption) ?_)) | (with_reducible exact Nat.le_refl _) | (with_reducible assumption) | omega | (simp; omega) | (simp; done)))⟩
end Go.Proofs.YthklnfanbegecacDoor
