/- A bundle of texts: HO. -/
import Derived.Test.YtimpgbifnijkkabGreatKK
import Derived.Test.YtimpgbifnijkkabGreatKJ
import Derived.Test.YtimpgbifnijkkabGreatKI
namespace Go.Proofs.YtimpgbifnijkkabGreat
open Go.RowKit
theorem good_el {q : Int} {l : List Int} (h : good q l = true) : ∀ i, i < l.length → El q (l.getD i 0) := fun i hi => by
  have hx := List.all_eq_true.1 (good_parts h).2 (l.getD i 0) (by rw [show l.getD i 0 = l[i] by simp [List.getD, hi]]; exact List.getElem_mem hi)
  simpa [inF, El] using hx
theorem inE_el {q a : Int} (h : inE q a = true) : El q a := ⟨(inE_yes h).2.1, (inE_yes h).2.2⟩

/-- The table of a polynomial. -/
def tabF (q : Int) (f : Nat → Int) (n : Nat) : Nat → Int := fun x => hor q (x : Int) f n n
set_option maxHeartbeats 2000000 in
/-- impl.poly.table. -/
theorem tableE (q : Int) (g n cap : Nat) (f : Nat → Int) (w : World) (h : isSz q = true) (hg : g < w.heap.size) (he : Els w g q f n) (hf : ∀ i, i < n → El q (f i)) (hn : n ≤ 1000) :
    Calls Tryz.prog 96 #[polyE q (.slice (some ⟨g, 0, none⟩) n cap)] w fun e w' => ∃ g', e = .returned (.slice (some ⟨g', 0, none⟩) q.toNat q.toNat) ∧ w.heap.size ≤ g' ∧ Blk w' g' q.toNat ∧ Els w' g' q (tabF q f n) q.toNat ∧ Below w.heap.size w w' := by
  have hq := isSz_le q h
  have HE := Lib.hid (fun w => elements_any q w h)
  have HM := Lib.hid (fun v w' (hv : Se w' v q (fun j => (j : Int)) q.toNat) (hb : Below w.heap.size w w') => mapped_at q (polyE q (.slice (some ⟨g, 0, none⟩) n cap)) v (fun j => (j : Int)) (tabF q f n) q.toNat w' hv (by omega)
    (fun i hi w'' hb'' => atE q (i : Int) g cap n f w'' h ⟨by omega, by omega⟩ (by have h1 := hb.size; have h2 := hb''.size; omega) ((he.below hb hg).below hb'' (by have h1 := hb.size; omega)) hf hn))
  clear h he hf
  generalize tabF q f n = T at *
  go_enter Tryz.func96, Tryz.ntmps96
  go_wp2_with fail
  go_region_with (first | (go_at_call 29; refine (HE.out _).mono ?_; rintro e w1 ⟨g1, cap1, rfl, hg1, hk1, he1, hb1⟩; have HSE : Hid (Se w1 (.slice (some ⟨g1, 0, none⟩) q.toNat cap1) q (fun j => (j : Int)) q.toNat) := Lib.hid ⟨g1, _, rfl, hk1.lt, he1⟩; clear hk1 he1; obtain ⟨hc1, hf1⟩ := bcell hb1; (try simp only [World.size_drew] at hc1 hf1); have hz1 := hb1.size; (try simp at hz1); have HB1 := Lib.hid hb1; clear hb1; have l1 : w.heap.size < w1.heap.size := (by omega)) | (go_at_call 28; refine (HM.out _ _ HSE.out (by have hb1 := HB1.out; (repeat' (first | (with_reducible assumption) | (with_reducible exact Below.refl _ _) | (with_reducible refine below_drewN ?_ _) | (with_reducible refine Below.drew ?_) | (with_reducible refine Below.alloc ?_ ?_ _) | (with_reducible refine Below.setCell ?_ ?_ _) | (with_reducible refine Below.trans ?_ (Below.mono (by assumption) ?_)) | (with_reducible exact Nat.le_refl _) | (with_reducible assumption) | omega | (simp; omega) | (simp; done))))).mono ?_; rintro e w2 ⟨g2, rfl, hg2, hk2, he2, hb2⟩; have HK2 := Lib.hid hk2; have HE2 := Lib.hid he2; clear hk2 he2; have HB2 := Lib.hid hb2; clear hb2))
  all_goals
    go_wp2
    go_ret
    have hb1 := HB1.out
    have hb2 := HB2.out
    exact ⟨_, rfl, by omega, HK2.out, HE2.out, by (repeat' (first | (with_reducible assumption) | (with_reducible exact Below.refl _ _) | (with_reducible refine below_drewN ?_ _) | (with_reducible refine Below.drew ?_) | (with_reducible refine Below.alloc ?_ ?_ _) | (with_reducible refine Below.setCell ?_ ?_ _) | (with_reducible refine Below.trans ?_ (Below.mono (by assumption) ?_)) | (with_reducible exact Nat.le_refl _) | (with_reducible assumption) | omega | (simp; omega) | (simp; done)))⟩
end Go.Proofs.YtimpgbifnijkkabGreat
