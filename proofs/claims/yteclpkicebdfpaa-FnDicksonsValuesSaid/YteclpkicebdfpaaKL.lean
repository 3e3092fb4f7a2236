/- A bundle of texts: HO. -/
import Derived.Test.YteclpkicebdfpaaKK
import Derived.Test.YteclpkicebdfpaaKJ
import Derived.Test.YteclpkicebdfpaaKI
namespace Go.Proofs.Yteclpkicebdfpaa
open Go.RowKit
theorem good_el {q : Int} {l : List Int} (h : good q l = true) : ∀ i, i < l.length → El q (l.getD i 0) := fun i hi => by
  have hx := List.all_eq_true.1 (good_parts h).2 (l.getD i 0) (by rw [show l.getD i 0 = l[i] by simp [List.getD, hi]]; exact List.getElem_mem hi)
  simpa [inF, El] using hx
theorem inE_el {q a : Int} (h : inE q a = true) : El q a := ⟨(inE_yes h).2.1, (inE_yes h).2.2⟩

theorem impl_ValueAt_no (q x : Int) (v : Value) (l : List Int) (w : World) (hv : Sl w v l) (hl : l.length ≤ 1048576) (hn : ((isSz q && good q l) && inE q x) = false) :
    Calls Try.prog 13 #[.int .i64 q, v, .int .i64 x] w fun e w' => e = .returned (.tuple #[.int .i64 0, .bool false]) ∧ Below w.heap.size w w' := by
  have HP := Lib.hid (vpe_no q x v l w hv hl hn)
  clear hv hl hn
  go_enter Try.func13, Try.ntmps13
  go_wp2_with fail
  refine HP.out.mono ?_
  rintro e w1 ⟨rfl, hb1⟩
  have hz_hb1 := hb1.size; (try simp at hz_hb1)
  have HB1 := Lib.hid hb1; clear hb1
  go_wp2_with fail
  go_ret2
  have hb1 := HB1.out
  exact ⟨rfl, by (repeat' (first | (with_reducible assumption) | (with_reducible exact Below.refl _ _) | (with_reducible refine below_drewN ?_ _) | (with_reducible refine Below.drew ?_) | (with_reducible refine Below.alloc ?_ ?_ _) | (with_reducible refine Below.setCell ?_ ?_ _) | (with_reducible refine Below.trans ?_ (Below.mono (by assumption) ?_)) | (with_reducible exact Nat.le_refl _) | (with_reducible assumption) | omega | (simp; omega) | (simp; done)))⟩
set_option maxHeartbeats 1000000 in
theorem impl_ValueAt_yes (q x : Int) (v : Value) (l : List Int) (w : World) (hv : Sl w v l) (h : isSz q = true) (hg : good q l = true) (hx : inE q x = true) :
    Calls Try.prog 13 #[.int .i64 q, v, .int .i64 x] w fun e w' => e = .returned (.tuple #[.int .i64 (hor q x (fun i => l.getD i 0) l.length l.length), .bool true]) ∧ Below w.heap.size w w' := by
  have hq := isSz_le q h
  have hlen := (good_parts hg).1
  have hr := hor_el (n := l.length) h (inE_el hx) (good_el hg) l.length (Nat.le_refl _)
  have HP := Lib.hid (vpe_yes q x v l w h hv hg hx)
  have HA := Lib.hid (fun g w' (hgw : g < w'.heap.size) (he : Els w' g q (fun i => l.getD i 0) l.length) => atE q x g l.length l.length (fun i => l.getD i 0) w' h (inE_el hx) hgw he (good_el hg) (by omega))
  have HN := Lib.hid (fun w => numberE q (hor q x (fun i => l.getD i 0) l.length l.length) w h hr.1 hr.2)
  clear hg hv hx h hr
  generalize hor q x (fun i => l.getD i 0) l.length l.length = r at *
  generalize (fun i => l.getD i 0) = f at *
  generalize l.length = n at *
  go_enter Try.func13, Try.ntmps13
  go_wp2_with fail
  refine HP.out.mono ?_
  rintro e w1 ⟨g, rfl, hgg, hk1, he1, hb1⟩
  have hgl := hk1.lt
  have HE1 := Lib.hid he1; clear he1 hk1
  have hz_hb1 := hb1.size; (try simp at hz_hb1)
  have HB1 := Lib.hid hb1; clear hb1
  go_wp2_with fail
  refine (HA.out g _ (by simp; omega) (HE1.out.below (B := w1.heap.size) (by (repeat' (first | (with_reducible assumption) | (with_reducible exact Below.refl _ _) | (with_reducible refine below_drewN ?_ _) | (with_reducible refine Below.drew ?_) | (with_reducible refine Below.alloc ?_ ?_ _) | (with_reducible refine Below.setCell ?_ ?_ _) | (with_reducible refine Below.trans ?_ (Below.mono (by assumption) ?_)) | (with_reducible exact Nat.le_refl _) | (with_reducible assumption) | omega | (simp; omega) | (simp; done)))) hgl)).mono ?_
  rintro e w2 ⟨rfl, hb2⟩
  have hz_hb2 := hb2.size; (try simp at hz_hb2)
  have HB2 := Lib.hid hb2; clear hb2
  go_wp2_with fail
  refine (HN.out _).mono ?_
  rintro e w3 ⟨rfl, hb3⟩
  have hz_hb3 := hb3.size; (try simp at hz_hb3)
  have HB3 := Lib.hid hb3; clear hb3
  go_wp2
  go_ret2
  have hb1 := HB1.out
  have hb2 := HB2.out
  have hb3 := HB3.out
  exact ⟨rfl, by (repeat' (first | (with_reducible assumption) | (with_reducible exact Below.refl _ _) | (with_reducible refine below_drewN ?_ _) | (with_reducible refine Below.drew ?_) | (with_reducible refine Below.alloc ?_ ?_ _) | (with_reducible refine Below.setCell ?_ ?_ _) | (with_reducible refine Below.trans ?_ (Below.mono (by assumption) ?_)) | (with_reducible exact Nat.le_refl _) | (with_reducible assumption) | omega | (simp; omega) | (simp; done)))⟩

/-- The table of a polynomial. -/
def tabF (q : Int) (f : Nat → Int) (n : Nat) : Nat → Int := fun x => hor q (x : Int) f n n
set_option maxHeartbeats 2000000 in
/-- impl.poly.table. -/
theorem tableE (q : Int) (g n cap : Nat) (f : Nat → Int) (w : World) (h : isSz q = true) (hg : g < w.heap.size) (he : Els w g q f n) (hf : ∀ i, i < n → El q (f i)) (hn : n ≤ 1000) :
    Calls Try.prog 99 #[polyE q (.slice (some ⟨g, 0, none⟩) n cap)] w fun e w' => ∃ g', e = .returned (.slice (some ⟨g', 0, none⟩) q.toNat q.toNat) ∧ w.heap.size ≤ g' ∧ Blk w' g' q.toNat ∧ Els w' g' q (tabF q f n) q.toNat ∧ Below w.heap.size w w' := by
  have hq := isSz_le q h
  have HE := Lib.hid (fun w => elements_any q w h)
  have HM := Lib.hid (fun v w' (hv : Se w' v q (fun j => (j : Int)) q.toNat) (hb : Below w.heap.size w w') => mapped_at q (polyE q (.slice (some ⟨g, 0, none⟩) n cap)) v (fun j => (j : Int)) (tabF q f n) q.toNat w' hv (by omega)
    (fun i hi w'' hb'' => atE q (i : Int) g cap n f w'' h ⟨by omega, by omega⟩ (by have h1 := hb.size; have h2 := hb''.size; omega) ((he.below hb hg).below hb'' (by have h1 := hb.size; omega)) hf hn))
  clear h he hf
  generalize tabF q f n = T at *
  go_enter Try.func99, Try.ntmps99
  go_wp2_with fail
  go_region_with (first | (go_at_call 113; refine (HE.out _).mono ?_; rintro e w1 ⟨g1, cap1, rfl, hg1, hk1, he1, hb1⟩; have HSE : Hid (Se w1 (.slice (some ⟨g1, 0, none⟩) q.toNat cap1) q (fun j => (j : Int)) q.toNat) := Lib.hid ⟨g1, _, rfl, hk1.lt, he1⟩; clear hk1 he1; obtain ⟨hc1, hf1⟩ := bcell hb1; (try simp only [World.size_drew] at hc1 hf1); have hz1 := hb1.size; (try simp at hz1); have HB1 := Lib.hid hb1; clear hb1; have l1 : w.heap.size < w1.heap.size := (by omega)) | (go_at_call 98; refine (HM.out _ _ HSE.out (by have hb1 := HB1.out; (repeat' (first | (with_reducible assumption) | (with_reducible exact Below.refl _ _) | (with_reducible refine below_drewN ?_ _) | (with_reducible refine Below.drew ?_) | (with_reducible refine Below.alloc ?_ ?_ _) | (with_reducible refine Below.setCell ?_ ?_ _) | (with_reducible refine Below.trans ?_ (Below.mono (by assumption) ?_)) | (with_reducible exact Nat.le_refl _) | (with_reducible assumption) | omega | (simp; omega) | (simp; done))))).mono ?_; rintro e w2 ⟨g2, rfl, hg2, hk2, he2, hb2⟩; have HK2 := Lib.hid hk2; have HE2 := Lib.hid he2; clear hk2 he2; have HB2 := Lib.hid hb2; clear hb2))
  all_goals
    go_wp2
    go_ret
    have hb1 := HB1.out
    have hb2 := HB2.out
    exact ⟨_, rfl, by omega, HK2.out, HE2.out, by (repeat' (first | (with_reducible assumption) | (with_reducible exact Below.refl _ _) | (with_reducible refine below_drewN ?_ _) | (with_reducible refine Below.drew ?_) | (with_reducible refine Below.alloc ?_ ?_ _) | (with_reducible refine Below.setCell ?_ ?_ _) | (with_reducible refine Below.trans ?_ (Below.mono (by assumption) ?_)) | (with_reducible exact Nat.le_refl _) | (with_reducible assumption) | omega | (simp; omega) | (simp; done)))⟩
end Go.Proofs.Yteclpkicebdfpaa
