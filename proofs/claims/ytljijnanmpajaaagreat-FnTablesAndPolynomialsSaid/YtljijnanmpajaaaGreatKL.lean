/- A bundle of texts: HO. -/
import Derived.Test.YtljijnanmpajaaaGreatKK
import Derived.Test.YtljijnanmpajaaaGreatKJ
import Derived.Test.YtljijnanmpajaaaGreatKI
namespace Go.Proofs.YtljijnanmpajaaaGreat
open Go.RowKit
theorem good_el {q : Int} {l : List Int} (h : good q l = true) : ∀ i, i < l.length → El q (l.getD i 0) := fun i hi => by
  have hx := List.all_eq_true.1 (good_parts h).2 (l.getD i 0) (by rw [show l.getD i 0 = l[i] by simp [List.getD, hi]]; exact List.getElem_mem hi)
  simpa [inF, El] using hx
theorem inE_el {q a : Int} (h : inE q a = true) : El q a := ⟨(inE_yes h).2.1, (inE_yes h).2.2⟩

theorem spec_ValueAt_no (q x : Int) (v : Value) (l : List Int) (w : World) (hv : Sl w v l) (hl : l.length ≤ 1048576) (hn : ((isSz q && good q l) && inE q x) = false) :
    Calls Tryz.prog 27 #[.int .i64 q, v, .int .i64 x] w fun e w' => e = .returned (.tuple #[.int .i64 0, .bool false]) ∧ Below w.heap.size w w' := by
  have hp := plGood_any q v l w hv hl
  cases hg : isSz q && good q l with
  | false =>
    rw [hg] at hp
    have HP := Lib.hid hp
    clear hp hg hv hl hn
    go_enter Tryz.func27, Tryz.ntmps27
    go_wp2_with fail
    refine HP.out.mono ?_
    rintro e w1 ⟨rfl, hb1⟩
    go_wp2
    go_ret2
    exact ⟨rfl, hb1⟩
  | true =>
    rw [hg] at hp hn
    have HP := Lib.hid hp
    have HN := Lib.hid (show inE q x = false from hn)
    clear hp hg hv hl hn
    go_enter Tryz.func27, Tryz.ntmps27
    go_wp2_with fail
    refine HP.out.mono ?_
    rintro e w1 ⟨rfl, hb1⟩
    have hz_hb1 := hb1.size; (try simp at hz_hb1)
    have HB1 := Lib.hid hb1; clear hb1
    go_wp2_with fail
    refine (fdIn_any _ _ _).mono ?_
    rintro e w2 ⟨rfl, hb2⟩
    rw [HN.out]
    have HB2 := Lib.hid hb2; clear hb2
    go_wp2
    go_ret2
    exact ⟨rfl, HB1.out.trans (HB2.out.mono hz_hb1)⟩
theorem impl_ValueAt_no (q x : Int) (v : Value) (l : List Int) (w : World) (hv : Sl w v l) (hl : l.length ≤ 1048576) (hn : ((isSz q && good q l) && inE q x) = false) :
    Calls Tryz.prog 17 #[.int .i64 q, v, .int .i64 x] w fun e w' => e = .returned (.tuple #[.int .i64 0, .bool false]) ∧ Below w.heap.size w w' := by
  have HP := Lib.hid (vpe_no q x v l w hv hl hn)
  clear hv hl hn
  go_enter Tryz.func17, Tryz.ntmps17
  go_wp2_with fail
  refine HP.out.mono ?_
  rintro e w1 ⟨rfl, hb1⟩
  have hz_hb1 := hb1.size; (try simp at hz_hb1)
  have HB1 := Lib.hid hb1; clear hb1
  go_wp2_with fail
  go_ret2
  have hb1 := HB1.out
  exact ⟨rfl, by (repeat' (first | (with_reducible assumption) | (with_reducible exact Below.refl _ _) | (with_reducible refine below_drewN ?_ _) | (with_reducible refine Below.drew ?_) | (with_reducible refine Below.alloc ?_ ?_ _) | (with_reducible refine Below.setCell ?_ ?_ _) | (with_reducible refine Below.trans ?_ (Below.mono (by assumption) ?_)) | (with_reducible exact Nat.le_refl _) | (with_reducible assumption) | omega | (simp; omega) | (simp; done)))⟩
set_option maxHeartbeats 1000000 in
theorem spec_ValueAt_yes (q x : Int) (v : Value) (l : List Int) (w : World) (hv : Sl w v l) (h : isSz q = true) (hg : good q l = true) (hx : inE q x = true) :
    Calls Tryz.prog 27 #[.int .i64 q, v, .int .i64 x] w fun e w' => e = .returned (.tuple #[.int .i64 (hor q x (fun i => l.getD i 0) l.length l.length), .bool true]) ∧ Below w.heap.size w w' := by
  have hq := isSz_le q h
  have hlen := (good_parts hg).1
  have hp := plGood_any q v l w hv (by omega)
  rw [h, hg] at hp
  have HP := Lib.hid hp
  have HX := Lib.hid hx
  have HA := Lib.hid (fun w' (hb : Below w.heap.size w w') => plAt_any q x v (fun i => l.getD i 0) l.length l w' h (inE_el hx) (hv.below hb (Nat.le_refl _)) rfl (fun _ _ => rfl) (good_el hg) (by omega))
  clear hp hg hv hx h
  generalize hor q x (fun i => l.getD i 0) l.length l.length = r at *
  go_enter Tryz.func27, Tryz.ntmps27
  go_wp2_with fail
  refine HP.out.mono ?_
  rintro e w1 ⟨rfl, hb1⟩
  have hz_hb1 := hb1.size; (try simp at hz_hb1)
  have HB1 := Lib.hid hb1; clear hb1
  go_wp2_with fail
  refine (fdIn_any _ _ _).mono ?_
  rintro e w2 ⟨rfl, hb2⟩
  rw [HX.out]
  have hz_hb2 := hb2.size; (try simp at hz_hb2)
  have HB2 : Hid (Below w.heap.size w w2) := Lib.hid (HB1.out.trans (hb2.mono hz_hb1)); clear hb2
  go_wp2_with fail
  refine (HA.out _ HB2.out).mono ?_
  rintro e w3 ⟨rfl, hb3⟩
  have HB3 := Lib.hid hb3; clear hb3
  go_wp2
  go_ret2
  exact ⟨rfl, HB2.out.trans (HB3.out.mono HB2.out.size)⟩
set_option maxHeartbeats 1000000 in
theorem impl_ValueAt_yes (q x : Int) (v : Value) (l : List Int) (w : World) (hv : Sl w v l) (h : isSz q = true) (hg : good q l = true) (hx : inE q x = true) :
    Calls Tryz.prog 17 #[.int .i64 q, v, .int .i64 x] w fun e w' => e = .returned (.tuple #[.int .i64 (hor q x (fun i => l.getD i 0) l.length l.length), .bool true]) ∧ Below w.heap.size w w' := by
  have hq := isSz_le q h
  have hlen := (good_parts hg).1
  have hr := hor_el (n := l.length) h (inE_el hx) (good_el hg) l.length (Nat.le_refl _)
  have HP := Lib.hid (vpe_yes q x v l w h hv hg hx)
  have HA := Lib.hid (fun g w' (hgw : g < w'.heap.size) (he : Els w' g q (fun i => l.getD i 0) l.length) => atE q x g l.length l.length (fun i => l.getD i 0) w' h (inE_el hx) hgw he (good_el hg) (by omega))
  have HN := Lib.hid (fun w => numberE q (hor q x (fun i => l.getD i 0) l.length l.length) w h hr.1 hr.2)
  clear hg hv hx h hr
  generalize hor q x (fun i => l.getD i 0) l.length l.length = r at *
  generalize (fun i => l.getD i 0) = f at *
  generalize l.length = n at *
  go_enter Tryz.func17, Tryz.ntmps17
  go_wp2_with fail
  refine HP.out.mono ?_
  rintro e w1 ⟨g, rfl, hgg, hk1, he1, hb1⟩
  have hgl := hk1.lt
  have HE1 := Lib.hid he1; clear he1 hk1
  have hz_hb1 := hb1.size; (try simp at hz_hb1)
  have HB1 := Lib.hid hb1; clear hb1
  go_wp2_with fail
  refine (HA.out g _ (by simp; omega) (HE1.out.below (B := w1.heap.size) (by (repeat' (first | (with_reducible assumption) | (with_reducible exact Below.refl _ _) | (with_reducible refine below_drewN ?_ _) | (with_reducible refine Below.drew ?_) | (with_reducible refine Below.alloc ?_ ?_ _) | (with_reducible refine Below.setCell ?_ ?_ _) | (with_reducible refine Below.trans ?_ (Below.mono (by assumption) ?_)) | (with_reducible exact Nat.le_refl _) | (with_reducible assumption) | omega | (simp; omega) | (simp; done)))) hgl)).mono ?_
  rintro e w2 ⟨rfl, hb2⟩
  have hz_hb2 := hb2.size; (try simp at hz_hb2)
  have HB2 := Lib.hid hb2; clear hb2
  go_wp2_with fail
  refine (HN.out _).mono ?_
  rintro e w3 ⟨rfl, hb3⟩
  have hz_hb3 := hb3.size; (try simp at hz_hb3)
  have HB3 := Lib.hid hb3; clear hb3
  go_wp2
  go_ret2
  have hb1 := HB1.out
  have hb2 := HB2.out
  have hb3 := HB3.out
  exact ⟨rfl, by (repeat' (first | (with_reducible assumption) | (with_reducible exact Below.refl _ _) | (with_reducible refine below_drewN ?_ _) | (with_reducible refine Below.drew ?_) | (with_reducible refine Below.alloc ?_ ?_ _) | (with_reducible refine Below.setCell ?_ ?_ _) | (with_reducible refine Below.trans ?_ (Below.mono (by assumption) ?_)) | (with_reducible exact Nat.le_refl _) | (with_reducible assumption) | omega | (simp; omega) | (simp; done)))⟩

theorem spec_TableOf_no (q : Int) (v : Value) (l : List Int) (w : World) (hv : Sl w v l) (hl : l.length ≤ 1048576) (hg : (isSz q && good q l) = false) :
    Calls Tryz.prog 10 #[.int .i64 q, v] w fun e w' => e = .returned (.tuple #[.slice none 0 0, .bool false]) ∧ Below w.heap.size w w' := by
  have hp := plGood_any q v l w hv hl
  rw [hg] at hp
  have HP := Lib.hid hp
  clear hp hg hv hl
  go_enter Tryz.func10, Tryz.ntmps10
  go_wp2_with fail
  refine HP.out.mono ?_
  rintro e w1 ⟨rfl, hb1⟩
  go_wp2
  go_ret2
  exact ⟨rfl, hb1⟩
theorem impl_TableOf_no (q : Int) (v : Value) (l : List Int) (w : World) (hv : Sl w v l) (hl : l.length ≤ 1048576) (hg : (isSz q && good q l) = false) :
    Calls Tryz.prog 9 #[.int .i64 q, v] w fun e w' => e = .returned (.tuple #[.slice none 0 0, .bool false]) ∧ Below w.heap.size w w' := by
  have HP := Lib.hid (validPoly_no q v l w hv hl hg)
  clear hg hv hl
  go_enter Tryz.func9, Tryz.ntmps9
  go_wp2_with fail
  refine HP.out.mono ?_
  rintro e w1 ⟨rfl, hb1⟩
  have hz_hb1 := hb1.size; (try simp at hz_hb1)
  have HB1 := Lib.hid hb1; clear hb1
  go_wp2_with fail
  go_ret2
  have hb1 := HB1.out
  exact ⟨rfl, by (repeat' (first | (with_reducible assumption) | (with_reducible exact Below.refl _ _) | (with_reducible refine below_drewN ?_ _) | (with_reducible refine Below.drew ?_) | (with_reducible refine Below.alloc ?_ ?_ _) | (with_reducible refine Below.setCell ?_ ?_ _) | (with_reducible refine Below.trans ?_ (Below.mono (by assumption) ?_)) | (with_reducible exact Nat.le_refl _) | (with_reducible assumption) | omega | (simp; omega) | (simp; done)))⟩
/-- The table of a polynomial. -/
def tabF (q : Int) (f : Nat → Int) (n : Nat) : Nat → Int := fun x => hor q (x : Int) f n n
set_option maxHeartbeats 2000000 in
/-- spec.plValues. -/
theorem plValues_any (q : Int) (v : Value) (l : List Int) (w : World) (h : isSz q = true) (hv : Sl w v l) (hg : good q l = true) :
    Calls Tryz.prog 88 #[.int .i64 q, v] w fun e w' => ∃ v', e = .returned v' ∧ Row w' w.heap.size v' (fl (tabF q (fun i => l.getD i 0) l.length) q.toNat) ∧ Below w.heap.size w w' := by
  obtain ⟨i0, hi, iz0, iz1, iz2⟩ := info_parts Tryz.infoI
  have hq := isSz_le q h
  have hlen := (good_parts hg).1
  have HA := Lib.hid (fun (x : Nat) (hx : (x : Int) < q) w' (hb : Below w.heap.size w w') => plAt_any q (x : Int) v (fun i => l.getD i 0) l.length l w' h ⟨by omega, hx⟩ (hv.below hb (Nat.le_refl _)) rfl (fun _ _ => rfl) (good_el hg) (by omega))
  have HT : Hid (∀ x : Nat, hor q (x : Int) (fun i => l.getD i 0) l.length l.length = tabF q (fun i => l.getD i 0) l.length x) := Lib.hid fun _ => rfl
  generalize tabF q (fun i => l.getD i 0) l.length = T at *
  clear hg hv h hlen
  obtain ⟨m, hm⟩ := Int.eq_ofNat_of_zero_le (show 0 ≤ q by omega)
  subst hm
  rw [Int.toNat_natCast]
  go_enter Tryz.func88, Tryz.ntmps88
  go_wp2_with fail
  go_loopw [5, 6] (fun vo va wr => ∃ i : Nat, i ≤ m ∧ va = .int .i64 i ∧ Row wr w.heap.size vo (fl T i) ∧ Below w.heap.size w wr) (fun _ va _ => m - (intOf va).toNat)
  case atStart => exact ⟨0, Nat.zero_le _, rfl, Row.nil _ _, Below.refl _ _⟩
  case round =>
    obtain ⟨i, hin, rfl, hr, hbw⟩ := hrel
    have hz := hbw.size
    have HL := Lib.hid (fl_len T i)
    have HF := Lib.hid (fl_succ T i)
    by_cases hlt : i < m
    · have ha := HA.out i (by omega) _ hbw
      rw [HT.out i] at ha
      have HA' := Lib.hid ha; clear ha
      have HR := Lib.hid hr; clear hr
      have HBW := Lib.hid hbw; clear hbw
      generalize T i = y at *
      go_wp2_with fail
      refine HA'.out.mono ?_
      rintro e w2 ⟨rfl, hb2⟩
      have hz_hb2 := hb2.size; (try simp at hz_hb2)
      have HB2 := Lib.hid hb2; clear hb2
      have HR2 := Lib.hid (HR.out.below HB2.out)
      go_wp2_with (at_builtin; refine wpList_append_own _ rfl _ _ 24 rfl w.heap.size 3 i0 (.int .i64 0) 1 8 Tryz.underlying24 hi iz0 iz1 iz2 rfl (by decide) _ _ _ rfl (World.ownsRow.alloc HR2.out _) ⟨w2.heap.size, 0, none⟩ 1 1 [.int .i64 y] rfl rfl ?c1 ?c2 ?c3 ?c4 ?c5 ?_)
      case c1 => exact cell_one_new _ _ _
      case c2 => intro u hu; simp at hu; subst hu; rfl
      case c3 => have := HL.out; unfold maxLen; omega
      case c4 => have := HL.out; omega
      case c5 => simp; omega
      intro v' w3 hown hgrow _
      have HR3 := Lib.hid (Row.of (l := fl T i ++ [y]) hown (by rw [List.length_append]; rfl) (by simp))
      have hb : Below w.heap.size w (w2.alloc (.cells #[.int .i64 y] 3)) := by have hb1 := HBW.out; have hb2 := HB2.out; (repeat' (first | (with_reducible assumption) | (with_reducible exact Below.refl _ _) | (with_reducible refine below_drewN ?_ _) | (with_reducible refine Below.drew ?_) | (with_reducible refine Below.alloc ?_ ?_ _) | (with_reducible refine Below.setCell ?_ ?_ _) | (with_reducible refine Below.trans ?_ (Below.mono (by assumption) ?_)) | (with_reducible exact Nat.le_refl _) | (with_reducible assumption) | omega | (simp; omega) | (simp; done)))
      have HB3 := Lib.hid (hb.grown hgrow (by simp; omega) (fun g hg => (HR2.out.lt g hg).1))
      clear hown hgrow hb
      go_wp2
      go_roundw
      case rel => exact ⟨i + 1, by omega, by go_num, by rw [HF.out]; exact HR3.out, HB3.out⟩
      case measure => simp [intOf]; omega
    · obtain rfl : m = i := by omega
      go_wp2
      go_ret
      exact ⟨_, rfl, hr, hbw⟩
theorem spec_TableOf_yes (q : Int) (v : Value) (l : List Int) (w : World) (hv : Sl w v l) (h : isSz q = true) (hg : good q l = true) :
    Calls Tryz.prog 10 #[.int .i64 q, v] w fun e w' => ∃ v', e = .returned (.tuple #[v', .bool true]) ∧ Row w' w.heap.size v' (fl (tabF q (fun i => l.getD i 0) l.length) q.toNat) ∧ Below w.heap.size w w' := by
  have hq := isSz_le q h
  have hlen := (good_parts hg).1
  have hp := plGood_any q v l w hv (by omega)
  rw [h, hg] at hp
  have HP := Lib.hid hp
  have HA := Lib.hid (fun w' (hb : Below w.heap.size w w') => plValues_any q v l w' h (hv.below hb (Nat.le_refl _)) hg)
  clear hp hg hv h
  go_enter Tryz.func10, Tryz.ntmps10
  go_wp2_with fail
  refine HP.out.mono ?_
  rintro e w1 ⟨rfl, hb1⟩
  have hz_hb1 := hb1.size; (try simp at hz_hb1)
  have HB1 := Lib.hid hb1; clear hb1
  go_wp2_with fail
  refine (HA.out _ HB1.out).mono ?_
  rintro e w2 ⟨v2, rfl, hr2, hb2⟩
  have HR2 := Lib.hid hr2; clear hr2
  have HB2 := Lib.hid hb2; clear hb2
  go_wp2
  go_ret2
  exact ⟨_, rfl, HR2.out.mono hz_hb1, HB1.out.trans (HB2.out.mono hz_hb1)⟩
set_option maxHeartbeats 2000000 in
/-- impl.poly.table. -/
theorem tableE (q : Int) (g n cap : Nat) (f : Nat → Int) (w : World) (h : isSz q = true) (hg : g < w.heap.size) (he : Els w g q f n) (hf : ∀ i, i < n → El q (f i)) (hn : n ≤ 1000) :
    Calls Tryz.prog 85 #[polyE q (.slice (some ⟨g, 0, none⟩) n cap)] w fun e w' => ∃ g', e = .returned (.slice (some ⟨g', 0, none⟩) q.toNat q.toNat) ∧ w.heap.size ≤ g' ∧ Blk w' g' q.toNat ∧ Els w' g' q (tabF q f n) q.toNat ∧ Below w.heap.size w w' := by
  have hq := isSz_le q h
  have HE := Lib.hid (fun w => elements_any q w h)
  have HM := Lib.hid (fun v w' (hv : Se w' v q (fun j => (j : Int)) q.toNat) (hb : Below w.heap.size w w') => mapped_at q (polyE q (.slice (some ⟨g, 0, none⟩) n cap)) v (fun j => (j : Int)) (tabF q f n) q.toNat w' hv (by omega)
    (fun i hi w'' hb'' => atE q (i : Int) g cap n f w'' h ⟨by omega, by omega⟩ (by have h1 := hb.size; have h2 := hb''.size; omega) ((he.below hb hg).below hb'' (by have h1 := hb.size; omega)) hf hn))
  clear h he hf
  generalize tabF q f n = T at *
  go_enter Tryz.func85, Tryz.ntmps85
  go_wp2_with fail
  go_region_with (first | (go_at_call 165; refine (HE.out _).mono ?_; rintro e w1 ⟨g1, cap1, rfl, hg1, hk1, he1, hb1⟩; have HSE : Hid (Se w1 (.slice (some ⟨g1, 0, none⟩) q.toNat cap1) q (fun j => (j : Int)) q.toNat) := Lib.hid ⟨g1, _, rfl, hk1.lt, he1⟩; clear hk1 he1; obtain ⟨hc1, hf1⟩ := bcell hb1; (try simp only [World.size_drew] at hc1 hf1); have hz1 := hb1.size; (try simp at hz1); have HB1 := Lib.hid hb1; clear hb1; have l1 : w.heap.size < w1.heap.size := (by omega)) | (go_at_call 164; refine (HM.out _ _ HSE.out (by have hb1 := HB1.out; (repeat' (first | (with_reducible assumption) | (with_reducible exact Below.refl _ _) | (with_reducible refine below_drewN ?_ _) | (with_reducible refine Below.drew ?_) | (with_reducible refine Below.alloc ?_ ?_ _) | (with_reducible refine Below.setCell ?_ ?_ _) | (with_reducible refine Below.trans ?_ (Below.mono (by assumption) ?_)) | (with_reducible exact Nat.le_refl _) | (with_reducible assumption) | omega | (simp; omega) | (simp; done))))).mono ?_; rintro e w2 ⟨g2, rfl, hg2, hk2, he2, hb2⟩; have HK2 := Lib.hid hk2; have HE2 := Lib.hid he2; clear hk2 he2; have HB2 := Lib.hid hb2; clear hb2))
  all_goals
    go_wp2
    go_ret
    have hb1 := HB1.out
    have hb2 := HB2.out
    exact ⟨_, rfl, by omega, HK2.out, HE2.out, by (repeat' (first | (with_reducible assumption) | (with_reducible exact Below.refl _ _) | (with_reducible refine below_drewN ?_ _) | (with_reducible refine Below.drew ?_) | (with_reducible refine Below.alloc ?_ ?_ _) | (with_reducible refine Below.setCell ?_ ?_ _) | (with_reducible refine Below.trans ?_ (Below.mono (by assumption) ?_)) | (with_reducible exact Nat.le_refl _) | (with_reducible assumption) | omega | (simp; omega) | (simp; done)))⟩
set_option maxHeartbeats 2000000 in
theorem impl_TableOf_yes (q : Int) (v : Value) (l : List Int) (w : World) (hv : Sl w v l) (h : isSz q = true) (hg : good q l = true) :
    Calls Tryz.prog 9 #[.int .i64 q, v] w fun e w' => ∃ v', e = .returned (.tuple #[v', .bool true]) ∧ Row w' w.heap.size v' (fl (tabF q (fun i => l.getD i 0) l.length) q.toNat) ∧ Below w.heap.size w w' := by
  have hq := isSz_le q h
  have hlen := (good_parts hg).1
  have HP := Lib.hid (validPoly_yes q v l w h hv hg)
  have HT := Lib.hid (fun g w' (hgw : g < w'.heap.size) (he : Els w' g q (fun i => l.getD i 0) l.length) => tableE q g l.length l.length (fun i => l.getD i 0) w' h hgw he (good_el hg) (by omega))
  have HM := Lib.hid (fun v w' (hv : Se w' v q (tabF q (fun i => l.getD i 0) l.length) q.toNat) => mappedEI q v _ q.toNat w' h hv (fun i hi => hor_el h ⟨by omega, by omega⟩ (good_el hg) _ (Nat.le_refl _)) (by omega))
  clear hg hv h
  generalize tabF q (fun i => l.getD i 0) l.length = T at *
  generalize (fun i => l.getD i 0) = f at *
  generalize l.length = n at *
  go_enter Tryz.func9, Tryz.ntmps9
  go_wp2_with fail
  refine HP.out.mono ?_
  rintro e w1 ⟨g, rfl, hgg, hk1, he1, hb1⟩
  have hgl := hk1.lt
  have HE1 := Lib.hid he1; clear he1 hk1
  have hz_hb1 := hb1.size; (try simp at hz_hb1)
  have HB1 := Lib.hid hb1; clear hb1
  go_wp2_with fail
  refine (HT.out g _ (by simp; omega) (HE1.out.below (B := w1.heap.size) (by (repeat' (first | (with_reducible assumption) | (with_reducible exact Below.refl _ _) | (with_reducible refine below_drewN ?_ _) | (with_reducible refine Below.drew ?_) | (with_reducible refine Below.alloc ?_ ?_ _) | (with_reducible refine Below.setCell ?_ ?_ _) | (with_reducible refine Below.trans ?_ (Below.mono (by assumption) ?_)) | (with_reducible exact Nat.le_refl _) | (with_reducible assumption) | omega | (simp; omega) | (simp; done)))) hgl)).mono ?_
  rintro e w2 ⟨g2, rfl, hgg2, hk2, he2, hb2⟩
  have hgl2 := hk2.lt
  have HSE : Hid (Se w2 (.slice (some ⟨g2, 0, none⟩) q.toNat q.toNat) q T q.toNat) := Lib.hid ⟨g2, _, rfl, hgl2, he2⟩
  clear hk2 he2
  have hz_hb2 := hb2.size; (try simp at hz_hb2)
  have HB2 := Lib.hid hb2; clear hb2
  go_wp2_with fail
  refine (HM.out _ _ HSE.out).mono ?_
  rintro e w3 ⟨v3, rfl, hr3, hb3⟩
  have hz_hb3 := hb3.size; (try simp at hz_hb3)
  have HR3 := Lib.hid hr3; clear hr3
  have HB3 := Lib.hid hb3; clear hb3
  go_wp2
  go_ret2
  have hb1 := HB1.out
  have hb2 := HB2.out
  have hb3 := HB3.out
  exact ⟨_, rfl, HR3.out.mono (by omega), by (repeat' (first | (with_reducible assumption) | (with_reducible exact Below.refl _ _) | (with_reducible refine below_drewN ?_ _) | (with_reducible refine Below.drew ?_) | (with_reducible refine Below.alloc ?_ ?_ _) | (with_reducible refine Below.setCell ?_ ?_ _) | (with_reducible refine Below.trans ?_ (Below.mono (by assumption) ?_)) | (with_reducible exact Nat.le_refl _) | (with_reducible assumption) | omega | (simp; omega) | (simp; done)))⟩

theorem key_ValueAt (q : Int) (l_f : List Int) (b_f : l_f.length ≤ 1048576) (x : Int) : ∃ (r : Int) (o : Bool), (∀ (w : World) (v_f : Value) (_ : Sl w v_f l_f), Calls Tryz.prog 27 #[.int .i64 q, v_f, .int .i64 x] w fun e w' => e = .returned (.tuple #[.int .i64 r, .bool o]) ∧ Below w.heap.size w w') ∧
      (∀ (w : World) (v_f : Value) (_ : Sl w v_f l_f), Calls Tryz.prog 17 #[.int .i64 q, v_f, .int .i64 x] w fun e w' => e = .returned (.tuple #[.int .i64 r, .bool o]) ∧ Below w.heap.size w w') := by
  cases h : (isSz q && good q l_f) && inE q x with
  | false => exact ⟨_, _, fun w v hv => spec_ValueAt_no q x v l_f w hv b_f h, fun w v hv => impl_ValueAt_no q x v l_f w hv b_f h⟩
  | true =>
    simp only [Bool.and_eq_true] at h
    exact ⟨_, _, fun w v hv => spec_ValueAt_yes q x v l_f w hv h.1.1 h.1.2 h.2, fun w v hv => impl_ValueAt_yes q x v l_f w hv h.1.1 h.1.2 h.2⟩
theorem key_TableOf (q : Int) (l_f : List Int) (b_f : l_f.length ≤ 1048576) : ∃ (r : List Int) (o : Bool), r.length ≤ 1048576 ∧ (∀ (w : World) (v_f : Value) (_ : Sl w v_f l_f), Calls Tryz.prog 10 #[.int .i64 q, v_f] w fun e w' => ∃ v, e = .returned (.tuple #[v, .bool o]) ∧ Row w' w.heap.size v r ∧ Below w.heap.size w w') ∧
      (∀ (w : World) (v_f : Value) (_ : Sl w v_f l_f), Calls Tryz.prog 9 #[.int .i64 q, v_f] w fun e w' => ∃ v, e = .returned (.tuple #[v, .bool o]) ∧ Row w' w.heap.size v r ∧ Below w.heap.size w w') := by
  cases h : isSz q && good q l_f with
  | false => exact ⟨[], false, by simp, fun w v hv => (spec_TableOf_no q v l_f w hv b_f h).mono fun _ _ ⟨he, hb⟩ => ⟨_, he, Row.nil _ _, hb⟩, fun w v hv => (impl_TableOf_no q v l_f w hv b_f h).mono fun _ _ ⟨he, hb⟩ => ⟨_, he, Row.nil _ _, hb⟩⟩
  | true =>
    simp only [Bool.and_eq_true] at h
    exact ⟨_, true, by rw [fl_len]; have := isSz_le q h.1; omega, fun w v hv => spec_TableOf_yes q v l_f w hv h.1 h.2, fun w v hv => impl_TableOf_yes q v l_f w hv h.1 h.2⟩
end Go.Proofs.YtljijnanmpajaaaGreat
