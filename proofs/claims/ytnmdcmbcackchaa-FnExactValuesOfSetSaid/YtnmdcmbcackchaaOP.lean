/- ValuesOfSet, of both, by contracts; the walk of its law. -/
import Derived.Test.YtnmdcmbcackchaaOO
import Derived.Test.YtnmdcmbcackchaaOE
import Derived.Test.YtnmdcmbcackchaaOB
import Derived.Test.YtnmdcmbcackchaaKL
namespace Go.Proofs.Ytnmdcmbcackchaa
open Go.RowKit
/-- The values at a set's elements. -/
def sv (m : Nat) (l s : List Int) : Nat → Int := fun i => hor (m : Int) (s.getD i 0) (fun i => l.getD i 0) l.length l.length
theorem set_el {m : Nat} {s : List Int} (h : rsn (m : Int) s = true) (i : Nat) (hi : i < s.length) : El (m : Int) (s.getD i 0) := by
  simp only [rsn, Bool.and_eq_true] at h
  have := List.all_eq_true.1 h.1 _ (show s.getD i 0 ∈ s by rw [show s.getD i 0 = s[i] by simp [List.getD, hi]]; exact List.getElem_mem hi)
  simp only [inF, Bool.and_eq_true, decide_eq_true_iff] at this
  exact this
theorem sv_el {m : Nat} {l s : List Int} (h : isSz (m : Int) = true) (hg : good (m : Int) l = true) (hs : rsn (m : Int) s = true) (i : Nat) (hi : i < s.length) : El (m : Int) (sv m l s i) :=
  hor_el (n := l.length) h (set_el hs i hi) (good_el hg) l.length (Nat.le_refl _)
theorem spec_ValuesOfSet_no (q : Int) (v u : Value) (l s : List Int) (w : World) (hv : Sl w v l) (hl : l.length ≤ 1048576) (hu : Sl w u s) (hs : s.length ≤ 1048576) (hn : ((isSz q && good q l) && rsn q s) = false) :
    Calls Try.prog 33 #[.int .i64 q, v, u] w fun e w' => e = .returned (.tuple #[.slice none 0 0, .bool false]) ∧ Below w.heap.size w w' := by
  have hp := plGood_any q v l w hv hl
  cases hg : isSz q && good q l with
  | false =>
    rw [hg] at hp
    have HP := Lib.hid hp
    clear hp hg hv hl hn hu hs
    go_enter Try.func33, Try.ntmps33
    go_wp2_with fail
    refine HP.out.mono ?_
    rintro e w1 ⟨rfl, hb1⟩
    go_wp2
    go_ret2
    exact ⟨rfl, hb1⟩
  | true =>
    have hsz : isSz q = true := by simp only [Bool.and_eq_true] at hg; exact hg.1
    rw [hg, Bool.true_and] at hn
    rw [hg] at hp
    have HP := Lib.hid hp
    have HS := Lib.hid (fun w' (hb : Below w.heap.size w w') => by have := vaRising_any q u s w' (hu.below hb (Nat.le_refl _)) hs; rw [hsz, hn] at this; exact this)
    clear hp hg hv hl hn hu hs
    go_enter Try.func33, Try.ntmps33
    go_wp2_with fail
    refine HP.out.mono ?_
    rintro e w1 ⟨rfl, hb1⟩
    have hz_hb1 := hb1.size; (try simp at hz_hb1)
    have HB1 := Lib.hid hb1; clear hb1
    go_wp2_with fail
    refine (HS.out _ HB1.out).mono ?_
    rintro e w2 ⟨rfl, hb2⟩
    have HB2 := Lib.hid hb2; clear hb2
    go_wp2
    go_ret2
    exact ⟨rfl, HB1.out.trans (HB2.out.mono hz_hb1)⟩
theorem impl_ValuesOfSet_no (q : Int) (v u : Value) (l s : List Int) (w : World) (hv : Sl w v l) (hl : l.length ≤ 1048576) (hu : Sl w u s) (hs : s.length ≤ 1048576) (hn : ((isSz q && good q l) && rsn q s) = false) :
    Calls Try.prog 34 #[.int .i64 q, v, u] w fun e w' => e = .returned (.tuple #[.slice none 0 0, .bool false]) ∧ Below w.heap.size w w' := by
  cases hg : isSz q && good q l with
  | false =>
    have HP := Lib.hid (validPoly_no q v l w hv hl hg)
    clear hg hv hl hn hu hs
    go_enter Try.func34, Try.ntmps34
    go_wp2_with fail
    refine HP.out.mono ?_
    rintro e w1 ⟨rfl, hb1⟩
    have hz_hb1 := hb1.size; (try simp at hz_hb1)
    have HB1 := Lib.hid hb1; clear hb1
    go_wp2_with fail
    go_ret2
    have hb1 := HB1.out
    exact ⟨rfl, by (repeat' (first | (with_reducible assumption) | (with_reducible exact Below.refl _ _) | (with_reducible refine below_drewN ?_ _) | (with_reducible refine Below.drew ?_) | (with_reducible refine Below.alloc ?_ ?_ _) | (with_reducible refine Below.setCell ?_ ?_ _) | (with_reducible refine Below.trans ?_ (Below.mono (by assumption) ?_)) | (with_reducible exact Nat.le_refl _) | (with_reducible assumption) | omega | (simp; omega) | (simp; done)))⟩
  | true =>
    rw [hg, Bool.true_and] at hn
    simp only [Bool.and_eq_true] at hg
    have HP := Lib.hid (validPoly_yes q v l w hg.1 hv hg.2)
    have HS := Lib.hid (fun w' (hb : Below w.heap.size w w') => by have := isSetE q u s w' (hu.below hb (Nat.le_refl _)) hs; rw [hn] at this; exact this)
    clear hv hl hn hu hs hg
    go_enter Try.func34, Try.ntmps34
    go_wp2_with fail
    refine HP.out.mono ?_
    rintro e w1 ⟨g, rfl, hgg, hk1, he1, hb1⟩
    have hz_hb1 := hb1.size; (try simp at hz_hb1)
    have HB1 := Lib.hid hb1; clear hb1 hk1 he1
    go_wp2_with fail
    refine (HS.out _ (by have hb1 := HB1.out; (repeat' (first | (with_reducible assumption) | (with_reducible exact Below.refl _ _) | (with_reducible refine below_drewN ?_ _) | (with_reducible refine Below.drew ?_) | (with_reducible refine Below.alloc ?_ ?_ _) | (with_reducible refine Below.setCell ?_ ?_ _) | (with_reducible refine Below.trans ?_ (Below.mono (by assumption) ?_)) | (with_reducible exact Nat.le_refl _) | (with_reducible assumption) | omega | (simp; omega) | (simp; done))))).mono ?_
    rintro e w2 ⟨rfl, hb2⟩
    have hz_hb2 := hb2.size; (try simp at hz_hb2)
    have HB2 := Lib.hid hb2; clear hb2
    go_wp2
    go_ret2
    have hb1 := HB1.out
    have hb2 := HB2.out
    exact ⟨rfl, by (repeat' (first | (with_reducible assumption) | (with_reducible exact Below.refl _ _) | (with_reducible refine below_drewN ?_ _) | (with_reducible refine Below.drew ?_) | (with_reducible refine Below.alloc ?_ ?_ _) | (with_reducible refine Below.setCell ?_ ?_ _) | (with_reducible refine Below.trans ?_ (Below.mono (by assumption) ?_)) | (with_reducible exact Nat.le_refl _) | (with_reducible assumption) | omega | (simp; omega) | (simp; done)))⟩
set_option maxRecDepth 100000 in
set_option maxHeartbeats 4000000 in
theorem impl_ValuesOfSet_yes (m : Nat) (v u : Value) (l s : List Int) (w : World) (hv : Sl w v l) (hu : Sl w u s) (h : isSz (m : Int) = true) (hg : good (m : Int) l = true) (hs : rsn (m : Int) s = true) :
    Calls Try.prog 34 #[.int .i64 m, v, u] w fun e w' => ∃ v', e = .returned (.tuple #[v', .bool true]) ∧ Row w' w.heap.size v' (wh (mt (sv m l s) s.length) m) ∧ Below w.heap.size w w' := by
  have hq := isSz_le (m : Int) h
  have hlen := (good_parts hg).1
  have hsl := rsn_len hs
  have hse := set_el hs
  have hve := sv_el h hg hs
  have HP := Lib.hid (validPoly_yes (m : Int) v l w h hv hg)
  have HS := Lib.hid (fun w' (hb : Below w.heap.size w w') => by have := isSetE (m : Int) u s w' (hu.below hb (Nat.le_refl _)) (by omega); rw [hs] at this; exact this)
  have HM1 := Lib.hid (fun w' (hb : Below w.heap.size w w') => mappedIE (m : Int) u s w' h (hu.below hb (Nat.le_refl _)) (by simp only [rsn, Bool.and_eq_true] at hs; exact hs.1) (by omega))
  have HM2 := Lib.hid (fun g v' w' (hgl : g < w'.heap.size) (he : Els w' g (m : Int) (fun i => l.getD i 0) l.length) (hv' : Se w' v' (m : Int) (fun i => s.getD i 0) s.length) => mapped_at (m : Int) (polyE (m : Int) (.slice (some ⟨g, 0, none⟩) l.length l.length)) v' (fun i => s.getD i 0) (sv m l s) s.length w' hv' (by omega)
    (fun i hi w'' hb'' => atE (m : Int) (s.getD i 0) g l.length l.length (fun i => l.getD i 0) w'' h (hse i hi) (by have := hb''.size; omega) (he.below hb'' hgl) (good_el hg) (by omega)))
  have HC := Lib.hid (fun g w' (hgl : g < w'.heap.size) (he : Els w' g (m : Int) (sv m l s) s.length) => countsInE m g s.length s.length (sv m l s) w' h hgl he hve (by omega))
  have HL := Lib.hid (fun w => listE m (oc (sv m l s) s.length) w h)
  have HIP : Hid (ps (oc (sv m l s) s.length) = mt (sv m l s) s.length) := Lib.hid rfl
  rw [HIP.out] at HL
  clear HIP hv hg h hs hse hve
  obtain ⟨a, cap, rfl⟩ := hu.form
  clear hu
  generalize mt (sv m l s) s.length = M at *
  generalize VA (m : Int) (oc (sv m l s) s.length) = A at *
  generalize sv m l s = t at *
  generalize (fun i => s.getD i 0) = sf at *
  generalize s.length = K at *
  generalize (fun i => l.getD i 0) = f at *
  generalize l.length = n at *
  go_enter Try.func34, Try.ntmps34
  go_wp2_with fail
  refine HP.out.mono ?_
  rintro e w1 ⟨g, rfl, hgg, hk1, he1, hb1⟩
  have hgl := hk1.lt
  have HE1 := Lib.hid he1; clear he1 hk1
  have hz_hb1 := hb1.size; (try simp at hz_hb1)
  have HB1 := Lib.hid hb1; clear hb1
  go_wp2_with fail
  refine (HS.out _ (by have hb1 := HB1.out; (repeat' (first | (with_reducible assumption) | (with_reducible exact Below.refl _ _) | (with_reducible refine below_drewN ?_ _) | (with_reducible refine Below.drew ?_) | (with_reducible refine Below.alloc ?_ ?_ _) | (with_reducible refine Below.setCell ?_ ?_ _) | (with_reducible refine Below.trans ?_ (Below.mono (by assumption) ?_)) | (with_reducible exact Nat.le_refl _) | (with_reducible assumption) | omega | (simp; omega) | (simp; done))))).mono ?_
  rintro e w2 ⟨rfl, hb2⟩
  have hz2 : w1.heap.size + 1 ≤ w2.heap.size := by have := hb2.size; simp at this; omega
  have HK2 : Hid (w2.heap[w1.heap.size]? = some (pblk (m : Int) (.slice (some ⟨g, 0, none⟩) n n))) := Lib.hid ((hb2.block _ (by simp)).trans (heap_alloc_new w1 _))
  have HB2 : Hid (Below w.heap.size w w2) := Lib.hid (by have hb1 := HB1.out; (repeat' (first | (with_reducible assumption) | (with_reducible exact Below.refl _ _) | (with_reducible refine below_drewN ?_ _) | (with_reducible refine Below.drew ?_) | (with_reducible refine Below.alloc ?_ ?_ _) | (with_reducible refine Below.setCell ?_ ?_ _) | (with_reducible refine Below.trans ?_ (Below.mono (by assumption) ?_)) | (with_reducible exact Nat.le_refl _) | (with_reducible assumption) | omega | (simp; omega) | (simp; done))))
  have HE2 := Lib.hid (HE1.out.below (B := w1.heap.size) (show Below w1.heap.size w1 w2 by (repeat' (first | (with_reducible assumption) | (with_reducible exact Below.refl _ _) | (with_reducible refine below_drewN ?_ _) | (with_reducible refine Below.drew ?_) | (with_reducible refine Below.alloc ?_ ?_ _) | (with_reducible refine Below.setCell ?_ ?_ _) | (with_reducible refine Below.trans ?_ (Below.mono (by assumption) ?_)) | (with_reducible exact Nat.le_refl _) | (with_reducible assumption) | omega | (simp; omega) | (simp; done)))) hgl)
  clear hb2
  have HKEEP : Hid (∀ w', Below w2.heap.size w2 w' → w'.cell? ⟨w1.heap.size, 0, none⟩ = some (.int .i64 m) ∧ w'.cell? ⟨w1.heap.size, 1, none⟩ = some (.int .i64 (pr m)) ∧ w'.cell? ⟨w1.heap.size, 2, none⟩ = some (.int .i64 (pl m)) ∧ w'.cell? ⟨w1.heap.size, 3, none⟩ = some (.slice (some ⟨g, 0, none⟩) n n)) := Lib.hid fun w' hb => by
    obtain ⟨x0, x1, x2, x3, _⟩ := cells4 ((hb.block _ (by omega)).trans HK2.out)
    exact ⟨x0, x1, x2, x3⟩
  obtain ⟨x0, x1, x2, x3⟩ := HKEEP.out w2 (Below.refl _ _)
  go_wp2_with fail
  go_region_held3 (fun w' => w'.cell? ⟨w1.heap.size, 0, none⟩ = some (.int .i64 m) ∧ w'.cell? ⟨w1.heap.size, 1, none⟩ = some (.int .i64 (pr m)) ∧ w'.cell? ⟨w1.heap.size, 2, none⟩ = some (.int .i64 (pl m)) ∧ w'.cell? ⟨w1.heap.size, 3, none⟩ = some (.slice (some ⟨g, 0, none⟩) n n))
    (exact HKEEP.out _ (by (try have hb3 := HB3.out); (try have hb4 := HB4.out); (try have hb5 := HB5.out); (try have hb6 := HB6.out); (repeat' (first | (with_reducible assumption) | (with_reducible exact Below.refl _ _) | (with_reducible refine below_drewN ?_ _) | (with_reducible refine Below.drew ?_) | (with_reducible refine Below.alloc ?_ ?_ _) | (with_reducible refine Below.setCell ?_ ?_ _) | (with_reducible refine Below.trans ?_ (Below.mono (by assumption) ?_)) | (with_reducible exact Nat.le_refl _) | (with_reducible assumption) | omega | (simp; omega) | (simp; done)))))
    (first
    | (go_at_call 62; refine (HM1.out _ (by have hb2 := HB2.out; (repeat' (first | (with_reducible assumption) | (with_reducible exact Below.refl _ _) | (with_reducible refine below_drewN ?_ _) | (with_reducible refine Below.drew ?_) | (with_reducible refine Below.alloc ?_ ?_ _) | (with_reducible refine Below.setCell ?_ ?_ _) | (with_reducible refine Below.trans ?_ (Below.mono (by assumption) ?_)) | (with_reducible exact Nat.le_refl _) | (with_reducible assumption) | omega | (simp; omega) | (simp; done))))).mono ?_; rintro e w3 ⟨g3, rfl, hg3, hk3, he3, hb3⟩; have HSE3 : Hid (Se w3 (.slice (some ⟨g3, 0, none⟩) K K) (m : Int) sf K) := Lib.hid ⟨g3, _, rfl, hk3.lt, he3⟩; clear hk3 he3; obtain ⟨hc3, hf3⟩ := bcell hb3; (try simp only [World.size_drew] at hc3 hf3); have hz3 := hb3.size; (try simp at hz3); have HB3 := Lib.hid hb3; clear hb3; have l3 : w1.heap.size < w3.heap.size := (by omega))
    | (go_at_call 61; refine (HM2.out g _ _ (by omega) (HE2.out.below (B := w2.heap.size) (by have hb3 := HB3.out; (repeat' (first | (with_reducible assumption) | (with_reducible exact Below.refl _ _) | (with_reducible refine below_drewN ?_ _) | (with_reducible refine Below.drew ?_) | (with_reducible refine Below.alloc ?_ ?_ _) | (with_reducible refine Below.setCell ?_ ?_ _) | (with_reducible refine Below.trans ?_ (Below.mono (by assumption) ?_)) | (with_reducible exact Nat.le_refl _) | (with_reducible assumption) | omega | (simp; omega) | (simp; done)))) (by omega)) HSE3.out).mono ?_; rintro e w4 ⟨g4, rfl, hg4, hk4, he4, hb4⟩; have hgl4 := hk4.lt; have HE4 := Lib.hid he4; clear hk4 he4; obtain ⟨hc4, hf4⟩ := bcell hb4; (try simp only [World.size_drew] at hc4 hf4); have hz4 := hb4.size; (try simp at hz4); have HB4 := Lib.hid hb4; clear hb4; have l4 : w1.heap.size < w4.heap.size := (by omega))
    | (go_at_call 60; refine (HC.out g4 _ hgl4 HE4.out).mono ?_; rintro e w5 ⟨rfl, hb5⟩; obtain ⟨hc5, hf5⟩ := bcell hb5; (try simp only [World.size_drew] at hc5 hf5); have hz5 := hb5.size; (try simp at hz5); have HB5 := Lib.hid hb5; clear hb5; have l5 : w1.heap.size < w5.heap.size := (by omega))
    | (go_at_call 41; refine (HL.out _).mono ?_; rintro e w6 ⟨v6, rfl, hr6, hb6⟩; have HR6 := Lib.hid hr6; clear hr6; obtain ⟨hc6, hf6⟩ := bcell hb6; (try simp only [World.size_drew] at hc6 hf6); have hz6 := hb6.size; (try simp at hz6); have HB6 := Lib.hid hb6; clear hb6; have l6 : w1.heap.size < w6.heap.size := (by omega)))
  all_goals
    go_wp2
    go_ret2
    have hb2 := HB2.out
    have hb3 := HB3.out
    have hb4 := HB4.out
    have hb5 := HB5.out
    have hb6 := HB6.out
    exact ⟨_, rfl, HR6.out.mono (by (try simp); omega), by (repeat' (first | (with_reducible assumption) | (with_reducible exact Below.refl _ _) | (with_reducible refine below_drewN ?_ _) | (with_reducible refine Below.drew ?_) | (with_reducible refine Below.alloc ?_ ?_ _) | (with_reducible refine Below.setCell ?_ ?_ _) | (with_reducible refine Below.trans ?_ (Below.mono (by assumption) ?_)) | (with_reducible exact Nat.le_refl _) | (with_reducible assumption) | omega | (simp; omega) | (simp; done)))⟩
set_option maxRecDepth 100000 in
set_option maxHeartbeats 4000000 in
theorem spec_ValuesOfSet_yes (m : Nat) (v u : Value) (l s : List Int) (w : World) (hv : Sl w v l) (hu : Sl w u s) (h : isSz (m : Int) = true) (hg : good (m : Int) l = true) (hs : rsn (m : Int) s = true) :
    Calls Try.prog 33 #[.int .i64 m, v, u] w fun e w' => ∃ v', e = .returned (.tuple #[v', .bool true]) ∧ Row w' w.heap.size v' (wh (mt (sv m l s) s.length) m) ∧ Below w.heap.size w w' := by
  have hq := isSz_le (m : Int) h
  have hlen := (good_parts hg).1
  have hsl := rsn_len hs
  have hse := set_el hs
  have hve := sv_el h hg hs
  have hp := plGood_any (m : Int) v l w hv (by omega)
  rw [h, hg] at hp
  have HP := Lib.hid hp
  have HS := Lib.hid (fun w' (hb : Below w.heap.size w w') => by have := vaRising_any (m : Int) u s w' (hu.below hb (Nat.le_refl _)) (by omega); rw [h, hs] at this; exact this)
  have HA := Lib.hid (fun i w' (hi : i < s.length) (hb : Below w.heap.size w w') => plAt_any (m : Int) (s.getD i 0) v (fun i => l.getD i 0) l.length l w' h (hse i hi) (hv.below hb (Nat.le_refl _)) rfl (fun _ _ => rfl) (good_el hg) (by omega))
  have HSV : Hid (∀ i, hor (m : Int) (s.getD i 0) (fun i => l.getD i 0) l.length l.length = sv m l s i) := Lib.hid fun _ => rfl
  have HV := Lib.hid (fun v' w' (hr : Sl w' v' (fl (sv m l s) s.length)) => vaValues_any m s.length v' (sv m l s) w' (by omega) hr hve (by omega))
  simp only [HSV.out] at HA
  obtain ⟨i0, hi, iz0, iz1, iz2⟩ := info_parts Try.infoI
  obtain ⟨a, cap, rfl, hcc⟩ := hu.tell.parts
  have HC := Lib.hid hcc
  clear hp hv hg hu h hs hse hve HSV hcc
  have HF0 : Hid (fl (sv m l s) 0 = []) := Lib.hid rfl
  have HFS := Lib.hid (fl_succ (sv m l s))
  have HFL := Lib.hid (fl_len (sv m l s))
  generalize wh (mt (sv m l s) s.length) m = R at *
  generalize sv m l s = t at *
  generalize s.length = K at *
  go_enter Try.func33, Try.ntmps33
  go_wp2_with fail
  refine HP.out.mono ?_
  rintro e w1 ⟨rfl, hb1⟩
  have hz_hb1 := hb1.size; (try simp at hz_hb1)
  have HB1 := Lib.hid hb1; clear hb1
  go_wp2_with fail
  refine (HS.out _ HB1.out).mono ?_
  rintro e w2 ⟨rfl, hb2⟩
  have hz_hb2 := hb2.size; (try simp at hz_hb2)
  have HB2 : Hid (Below w.heap.size w w2) := Lib.hid (HB1.out.trans (hb2.mono hz_hb1)); clear hb2
  have hz2 := HB2.out.size
  go_wp2_with fail
  go_loopw [8, 23] (fun vo vi wr => ∃ k : Nat, k ≤ K ∧ vi = .int .i64 k ∧ Row wr w2.heap.size vo (fl t k) ∧ Below w2.heap.size w2 wr) (fun _ vi _ => K - (intOf vi).toNat)
  case atStart => exact ⟨0, Nat.zero_le _, rfl, by rw [HF0.out]; exact Row.nil _ _, Below.refl _ _⟩
  case round =>
    obtain ⟨k, hk, rfl, hr, hbw⟩ := hrel
    have hz := hbw.size
    have HLn := HFL.out k
    have HR := Lib.hid hr; clear hr
    have HBW := Lib.hid hbw
    have HBWW : Hid (Below w.heap.size w wr) := Lib.hid (HB2.out.trans (hbw.mono hz2))
    clear hbw
    by_cases hlt : k < K
    · obtain ⟨b, off, rfl, hb, hc⟩ := HC.out (by omega)
      have hck := (HBWW.out.cell (p := ⟨b, off + k, none⟩) hb).trans (hc k hlt)
      have HA' := Lib.hid (HA.out k wr hlt HBWW.out)
      have HFS' := Lib.hid (HFS.out k)
      clear hc
      generalize t k = y at *
      go_wp2_with fail
      refine HA'.out.mono ?_
      rintro e w5 ⟨rfl, hb5⟩
      have hz_hb5 := hb5.size; (try simp at hz_hb5)
      have HR5 := Lib.hid (HR.out.below hb5)
      have HB5 : Hid (Below w2.heap.size w2 w5) := Lib.hid (HBW.out.trans (hb5.mono hz))
      clear hb5
      go_wp2_with (at_builtin; refine wpList_append_own _ rfl _ _ 22 rfl w2.heap.size 3 i0 (.int .i64 0) 1 8 Try.underlying22 hi iz0 iz1 iz2 rfl (by decide) _ _ _ rfl (World.ownsRow.alloc HR5.out _) ⟨w5.heap.size, 0, none⟩ 1 1 [.int .i64 y] rfl rfl ?c1 ?c2 ?c3 ?c4 ?c5 ?_)
      case c1 => exact cell_one_new _ _ _
      case c2 => intro u hu; simp at hu; subst hu; rfl
      case c3 => unfold maxLen; omega
      case c4 => omega
      case c5 => simp; omega
      intro v' w6 hown hgrow _
      have HR6 := Lib.hid (Row.appended (l := fl t k) (by rw [HLn]; exact hown))
      have hb : Below w2.heap.size w2 (w5.alloc (.cells #[.int .i64 y] 3)) := HB5.out.alloc (by omega) _
      have HB6 := Lib.hid (hb.grown hgrow (by simp; omega) (fun g hg => (HR5.out.lt g hg).1))
      clear hown hgrow hb
      go_wp2
      go_roundw
      case rel => exact ⟨k + 1, by omega, by go_num, by rw [HFS'.out]; exact HR6.out, HB6.out⟩
      case measure => simp [intOf]; omega
    · obtain rfl : K = k := by omega
      go_wp2_with fail
      refine (HV.out _ _ HR.out.sl).mono ?_
      rintro e w7 ⟨v7, rfl, hr7, hb7⟩
      have HR7 := Lib.hid hr7
      have HB7 : Hid (Below w.heap.size w w7) := Lib.hid (HBWW.out.trans (hb7.mono HBWW.out.size))
      clear hr7 hb7
      go_wp2
      go_ret2
      exact ⟨_, rfl, HR7.out.mono HBWW.out.size, HB7.out⟩
theorem key_ValuesOfSet (q : Int) (l_f : List Int) (b_f : l_f.length ≤ 1048576) (l_set : List Int) (b_set : l_set.length ≤ 1048576) : ∃ (r : List Int) (o : Bool), r.length ≤ 1048576 ∧ (∀ (w : World) (v_f : Value) (_ : Sl w v_f l_f) (v_set : Value) (_ : Sl w v_set l_set), Calls Try.prog 33 #[.int .i64 q, v_f, v_set] w fun e w' => ∃ v, e = .returned (.tuple #[v, .bool o]) ∧ Row w' w.heap.size v r ∧ Below w.heap.size w w') ∧
      (∀ (w : World) (v_f : Value) (_ : Sl w v_f l_f) (v_set : Value) (_ : Sl w v_set l_set), Calls Try.prog 34 #[.int .i64 q, v_f, v_set] w fun e w' => ∃ v, e = .returned (.tuple #[v, .bool o]) ∧ Row w' w.heap.size v r ∧ Below w.heap.size w w') := by
  cases h : (isSz q && good q l_f) && rsn q l_set with
  | false => exact ⟨[], false, by simp, fun w v hv u hu => (spec_ValuesOfSet_no q v u l_f l_set w hv b_f hu b_set h).mono (by rintro e w' ⟨rfl, hb⟩; exact ⟨_, rfl, Row.nil _ _, hb⟩), fun w v hv u hu => (impl_ValuesOfSet_no q v u l_f l_set w hv b_f hu b_set h).mono (by rintro e w' ⟨rfl, hb⟩; exact ⟨_, rfl, Row.nil _ _, hb⟩)⟩
  | true =>
    simp only [Bool.and_eq_true] at h
    have hq := isSz_le q h.1.1
    obtain ⟨m, rfl⟩ := Int.eq_ofNat_of_zero_le (show 0 ≤ q by omega)
    exact ⟨_, true, Nat.le_trans (wh_len _ _) (by omega), fun w v hv u hu => spec_ValuesOfSet_yes m v u l_f l_set w hv hu h.1.1 h.1.2 h.2, fun w v hv u hu => impl_ValuesOfSet_yes m v u l_f l_set w hv hu h.1.1 h.1.2 h.2⟩
set_option maxRecDepth 100000 in
set_option maxHeartbeats 4000000 in
/-- laws.FnExactValuesOfSet. -/
theorem walk_FnExactValuesOfSet (q : Int) (a_f : Option Addr) (n_f c_f : Nat) (z_f : List Int) (a_set : Option Addr) (n_set c_set : Nat) (z_set : List Int) (w : World) (_h_q : (Lit.int .i64 q).wf = true) (h_f : IsRow .i64 w a_f n_f c_f z_f) (h_set : IsRow .i64 w a_set n_set c_set z_set) :
    Calls Try.prog 11 #[.int .i64 q, .slice a_f n_f c_f, .slice a_set n_set c_set] w fun e w' => e = .returned (.bool true) ∧ Below w.heap.size w w' := by
  clear _h_q
  obtain ⟨hs_f, hl_f, _⟩ := h_f.sl
  generalize z_f.take n_f = l_f at *
  clear h_f
  subst hl_f
  obtain ⟨hs_set, hl_set, _⟩ := h_set.sl
  generalize z_set.take n_set = l_set at *
  clear h_set
  subst hl_set
  by_cases b_f : l_f.length ≤ 1048576
  rotate_left
  · have hn_f : (1048576 : Int) < (l_f.length : Int) := by omega
    go_enter Try.func11, Try.ntmps11
    go_wp2
    go_ret
    exact ⟨rfl, Below.refl _ _⟩
  by_cases b_set : l_set.length ≤ 1048576
  rotate_left
  · have hn_set : (1048576 : Int) < (l_set.length : Int) := by omega
    have hn_f : ¬ (1048576 : Int) < (l_f.length : Int) := by omega
    go_enter Try.func11, Try.ntmps11
    go_wp2
    go_ret
    exact ⟨rfl, Below.refl _ _⟩
  have hn_f : ¬ (1048576 : Int) < (l_f.length : Int) := by omega
  have hn_set : ¬ (1048576 : Int) < (l_set.length : Int) := by omega
  obtain ⟨r, o, hr, k1, k2⟩ := key_ValuesOfSet q l_f b_f l_set b_set
  have K1 := Lib.hid k1; clear k1
  have K2 := Lib.hid k2; clear k2
  have HS_f := Lib.hid hs_f; clear hs_f
  have HS_set := Lib.hid hs_set; clear hs_set
  have HB0 : Hid (Below w.heap.size w w) := Lib.hid (Below.refl _ _)
  go_enter Try.func11, Try.ntmps11
  go_wp2_with fail
  refine (toIntS_any _ l_f _ (HS_f.out.below HB0.out (Nat.le_refl _)) b_f).mono ?_
  rintro e w1 ⟨v_s_f, rfl, hrw1, hbw1⟩
  have hzw1 : w.heap.size ≤ w1.heap.size := hbw1.size
  have HBw1 : Hid (Below w.heap.size w w1) := Lib.hid (HB0.out.trans (hbw1.mono HB0.out.size))
  have hww1 := HBw1.out.size
  clear hbw1 HB0
  have R_s_f_w1 := Lib.hid hrw1; clear hrw1
  have lt_s_f : Hid (∀ g, v_s_f.ownBlock = some g → w.heap.size ≤ g ∧ g < w1.heap.size) := Lib.hid R_s_f_w1.out.lt
  go_wp2_with fail
  refine (toIntS_any _ l_set _ (HS_set.out.below HBw1.out (Nat.le_refl _)) b_set).mono ?_
  rintro e w2 ⟨v_s_set, rfl, hrw2, hbw2⟩
  have hzw2 : w1.heap.size ≤ w2.heap.size := hbw2.size
  have R_s_f_w2 := Lib.hid (R_s_f_w1.out.below hbw2)
  clear R_s_f_w1
  have HBw2 : Hid (Below w.heap.size w w2) := Lib.hid (HBw1.out.trans (hbw2.mono HBw1.out.size))
  have hww2 := HBw2.out.size
  clear hbw2 HBw1
  have R_s_set_w2 := Lib.hid hrw2; clear hrw2
  have lt_s_set : Hid (∀ g, v_s_set.ownBlock = some g → w1.heap.size ≤ g ∧ g < w2.heap.size) := Lib.hid R_s_set_w2.out.lt
  go_wp2_with fail
  refine (K1.out _ v_s_f R_s_f_w2.out.sl v_s_set R_s_set_w2.out.sl).mono ?_
  rintro e w3 ⟨v_sp, rfl, hrw3, hbw3⟩
  have hzw3 : w2.heap.size ≤ w3.heap.size := hbw3.size
  have R_s_f_w3 := Lib.hid (R_s_f_w2.out.below hbw3)
  clear R_s_f_w2
  have R_s_set_w3 := Lib.hid (R_s_set_w2.out.below hbw3)
  clear R_s_set_w2
  have HBw3 : Hid (Below w.heap.size w w3) := Lib.hid (HBw2.out.trans (hbw3.mono HBw2.out.size))
  have hww3 := HBw3.out.size
  clear hbw3 HBw2
  have R_sp_w3 := Lib.hid hrw3; clear hrw3
  have lt_sp : Hid (∀ g, v_sp.ownBlock = some g → w2.heap.size ≤ g ∧ g < w3.heap.size) := Lib.hid R_sp_w3.out.lt
  clear R_s_f_w3 lt_s_f
  clear R_s_set_w3 lt_s_set
  go_wp2_with fail
  refine (toIntS_any _ l_f _ (HS_f.out.below HBw3.out (Nat.le_refl _)) b_f).mono ?_
  rintro e w4 ⟨v_x_f, rfl, hrw4, hbw4⟩
  have hzw4 : w3.heap.size ≤ w4.heap.size := hbw4.size
  have R_sp_w4 := Lib.hid (R_sp_w3.out.below hbw4)
  clear R_sp_w3
  have HBw4 : Hid (Below w.heap.size w w4) := Lib.hid (HBw3.out.trans (hbw4.mono HBw3.out.size))
  have hww4 := HBw4.out.size
  clear hbw4 HBw3
  have R_x_f_w4 := Lib.hid hrw4; clear hrw4
  have lt_x_f : Hid (∀ g, v_x_f.ownBlock = some g → w3.heap.size ≤ g ∧ g < w4.heap.size) := Lib.hid R_x_f_w4.out.lt
  go_wp2_with fail
  refine (toIntS_any _ l_set _ (HS_set.out.below HBw4.out (Nat.le_refl _)) b_set).mono ?_
  rintro e w5 ⟨v_x_set, rfl, hrw5, hbw5⟩
  have hzw5 : w4.heap.size ≤ w5.heap.size := hbw5.size
  have R_sp_w5 := Lib.hid (R_sp_w4.out.below hbw5)
  clear R_sp_w4
  have R_x_f_w5 := Lib.hid (R_x_f_w4.out.below hbw5)
  clear R_x_f_w4
  have HBw5 : Hid (Below w.heap.size w w5) := Lib.hid (HBw4.out.trans (hbw5.mono HBw4.out.size))
  have hww5 := HBw5.out.size
  clear hbw5 HBw4
  have R_x_set_w5 := Lib.hid hrw5; clear hrw5
  have lt_x_set : Hid (∀ g, v_x_set.ownBlock = some g → w4.heap.size ≤ g ∧ g < w5.heap.size) := Lib.hid R_x_set_w5.out.lt
  go_wp2_with fail
  refine (K2.out _ v_x_f R_x_f_w5.out.sl v_x_set R_x_set_w5.out.sl).mono ?_
  rintro e w6 ⟨v_im, rfl, hrw6, hbw6⟩
  have hzw6 : w5.heap.size ≤ w6.heap.size := hbw6.size
  have R_sp_w6 := Lib.hid (R_sp_w5.out.below hbw6)
  clear R_sp_w5
  have R_x_f_w6 := Lib.hid (R_x_f_w5.out.below hbw6)
  clear R_x_f_w5
  have R_x_set_w6 := Lib.hid (R_x_set_w5.out.below hbw6)
  clear R_x_set_w5
  have HBw6 : Hid (Below w.heap.size w w6) := Lib.hid (HBw5.out.trans (hbw6.mono HBw5.out.size))
  have hww6 := HBw6.out.size
  clear hbw6 HBw5
  have R_im_w6 := Lib.hid hrw6; clear hrw6
  have lt_im : Hid (∀ g, v_im.ownBlock = some g → w5.heap.size ≤ g ∧ g < w6.heap.size) := Lib.hid R_im_w6.out.lt
  go_wp2_with fail
  refine (eq_same v_im v_sp r _ _ _ R_im_w6.out R_sp_w6.out (by omega)).mono ?_
  rintro e w7 ⟨rfl, hbw7⟩
  have hzw7 : w6.heap.size ≤ w7.heap.size := hbw7.size
  have R_sp_w7 := Lib.hid (R_sp_w6.out.below hbw7)
  clear R_sp_w6
  have R_x_f_w7 := Lib.hid (R_x_f_w6.out.below hbw7)
  clear R_x_f_w6
  have R_x_set_w7 := Lib.hid (R_x_set_w6.out.below hbw7)
  clear R_x_set_w6
  have R_im_w7 := Lib.hid (R_im_w6.out.below hbw7)
  clear R_im_w6
  have HBw7 : Hid (Below w.heap.size w w7) := Lib.hid (HBw6.out.trans (hbw7.mono HBw6.out.size))
  have hww7 := HBw7.out.size
  clear hbw7 HBw6
  go_wp2_with fail
  refine (toIntS_any _ l_f _ (HS_f.out.below HBw7.out (Nat.le_refl _)) b_f).mono ?_
  rintro e w8 ⟨v_y_f, rfl, hrw8, hbw8⟩
  have hzw8 : w7.heap.size ≤ w8.heap.size := hbw8.size
  have R_sp_w8 := Lib.hid (R_sp_w7.out.below hbw8)
  clear R_sp_w7
  have R_x_f_w8 := Lib.hid (R_x_f_w7.out.below hbw8)
  clear R_x_f_w7
  have R_x_set_w8 := Lib.hid (R_x_set_w7.out.below hbw8)
  clear R_x_set_w7
  have R_im_w8 := Lib.hid (R_im_w7.out.below hbw8)
  clear R_im_w7
  have HBw8 : Hid (Below w.heap.size w w8) := Lib.hid (HBw7.out.trans (hbw8.mono HBw7.out.size))
  have hww8 := HBw8.out.size
  clear hbw8 HBw7
  have R_y_f_w8 := Lib.hid hrw8; clear hrw8
  have lt_y_f : Hid (∀ g, v_y_f.ownBlock = some g → w7.heap.size ≤ g ∧ g < w8.heap.size) := Lib.hid R_y_f_w8.out.lt
  go_wp2_with fail
  refine (eq_same v_x_f v_y_f l_f _ _ _ R_x_f_w8.out R_y_f_w8.out (by omega)).mono ?_
  rintro e w9 ⟨rfl, hbw9⟩
  have hzw9 : w8.heap.size ≤ w9.heap.size := hbw9.size
  have R_sp_w9 := Lib.hid (R_sp_w8.out.below hbw9)
  clear R_sp_w8
  have R_x_f_w9 := Lib.hid (R_x_f_w8.out.below hbw9)
  clear R_x_f_w8
  have R_x_set_w9 := Lib.hid (R_x_set_w8.out.below hbw9)
  clear R_x_set_w8
  have R_im_w9 := Lib.hid (R_im_w8.out.below hbw9)
  clear R_im_w8
  have R_y_f_w9 := Lib.hid (R_y_f_w8.out.below hbw9)
  clear R_y_f_w8
  have HBw9 : Hid (Below w.heap.size w w9) := Lib.hid (HBw8.out.trans (hbw9.mono HBw8.out.size))
  have hww9 := HBw9.out.size
  clear hbw9 HBw8
  clear R_y_f_w9 lt_y_f
  go_wp2_with fail
  refine (toIntS_any _ l_set _ (HS_set.out.below HBw9.out (Nat.le_refl _)) b_set).mono ?_
  rintro e w10 ⟨v_y_set, rfl, hrw10, hbw10⟩
  have hzw10 : w9.heap.size ≤ w10.heap.size := hbw10.size
  have R_sp_w10 := Lib.hid (R_sp_w9.out.below hbw10)
  clear R_sp_w9
  have R_x_f_w10 := Lib.hid (R_x_f_w9.out.below hbw10)
  clear R_x_f_w9
  have R_x_set_w10 := Lib.hid (R_x_set_w9.out.below hbw10)
  clear R_x_set_w9
  have R_im_w10 := Lib.hid (R_im_w9.out.below hbw10)
  clear R_im_w9
  have HBw10 : Hid (Below w.heap.size w w10) := Lib.hid (HBw9.out.trans (hbw10.mono HBw9.out.size))
  have hww10 := HBw10.out.size
  clear hbw10 HBw9
  have R_y_set_w10 := Lib.hid hrw10; clear hrw10
  have lt_y_set : Hid (∀ g, v_y_set.ownBlock = some g → w9.heap.size ≤ g ∧ g < w10.heap.size) := Lib.hid R_y_set_w10.out.lt
  go_wp2_with fail
  refine (eq_same v_x_set v_y_set l_set _ _ _ R_x_set_w10.out R_y_set_w10.out (by omega)).mono ?_
  rintro e w11 ⟨rfl, hbw11⟩
  have hzw11 : w10.heap.size ≤ w11.heap.size := hbw11.size
  have R_sp_w11 := Lib.hid (R_sp_w10.out.below hbw11)
  clear R_sp_w10
  have R_x_f_w11 := Lib.hid (R_x_f_w10.out.below hbw11)
  clear R_x_f_w10
  have R_x_set_w11 := Lib.hid (R_x_set_w10.out.below hbw11)
  clear R_x_set_w10
  have R_im_w11 := Lib.hid (R_im_w10.out.below hbw11)
  clear R_im_w10
  have R_y_set_w11 := Lib.hid (R_y_set_w10.out.below hbw11)
  clear R_y_set_w10
  have HBw11 : Hid (Below w.heap.size w w11) := Lib.hid (HBw10.out.trans (hbw11.mono HBw10.out.size))
  have hww11 := HBw11.out.size
  clear hbw11 HBw10
  clear R_y_set_w11 lt_y_set
  go_wp2_with fail
  refine (mark_any v_x_f l_f _ (1) _ R_x_f_w11.out (by omega) (by omega) (by omega)).mono ?_
  rintro e w12 ⟨rfl, hrw12, hgw12⟩
  have hzw12 : w11.heap.size ≤ w12.heap.size := hgw12.size
  have R_sp_w12 := Lib.hid (R_sp_w11.out.keep (w' := w12) fun g hg => hgw12.block g (R_sp_w11.out.lt g hg).2 fun e => by have h1 := lt_sp.out g hg; have h2 := lt_x_f.out g e.symm; omega)
  clear R_sp_w11
  have R_x_set_w12 := Lib.hid (R_x_set_w11.out.keep (w' := w12) fun g hg => hgw12.block g (R_x_set_w11.out.lt g hg).2 fun e => by have h1 := lt_x_set.out g hg; have h2 := lt_x_f.out g e.symm; omega)
  clear R_x_set_w11
  have R_im_w12 := Lib.hid (R_im_w11.out.keep (w' := w12) fun g hg => hgw12.block g (R_im_w11.out.lt g hg).2 fun e => by have h1 := lt_im.out g hg; have h2 := lt_x_f.out g e.symm; omega)
  clear R_im_w11
  have HBw12 : Hid (Below w.heap.size w w12) := Lib.hid (Below.grown HBw11.out hgw12 (by omega) (fun g e => by have h2 := lt_x_f.out g e; omega))
  have hww12 := HBw12.out.size
  have R_x_f_w12 := Lib.hid hrw12
  clear hrw12 hgw12 HBw11 R_x_f_w11
  go_wp2_with fail
  refine (mark_big v_x_set l_set _ (1 + (l_f.length : Int)) _ R_x_set_w12.out (by omega) (by omega) (by omega)).mono ?_
  rintro e w13 ⟨rfl, hrw13, hgw13⟩
  have hzw13 : w12.heap.size ≤ w13.heap.size := hgw13.size
  have R_sp_w13 := Lib.hid (R_sp_w12.out.keep (w' := w13) fun g hg => hgw13.block g (R_sp_w12.out.lt g hg).2 fun e => by have h1 := lt_sp.out g hg; have h2 := lt_x_set.out g e.symm; omega)
  clear R_sp_w12
  have R_x_f_w13 := Lib.hid (R_x_f_w12.out.keep (w' := w13) fun g hg => hgw13.block g (R_x_f_w12.out.lt g hg).2 fun e => by have h1 := lt_x_f.out g hg; have h2 := lt_x_set.out g e.symm; omega)
  clear R_x_f_w12
  have R_im_w13 := Lib.hid (R_im_w12.out.keep (w' := w13) fun g hg => hgw13.block g (R_im_w12.out.lt g hg).2 fun e => by have h1 := lt_im.out g hg; have h2 := lt_x_set.out g e.symm; omega)
  clear R_im_w12
  have HBw13 : Hid (Below w.heap.size w w13) := Lib.hid (Below.grown HBw12.out hgw13 (by omega) (fun g e => by have h2 := lt_x_set.out g e; omega))
  have hww13 := HBw13.out.size
  have R_x_set_w13 := Lib.hid hrw13
  clear hrw13 hgw13 HBw12 R_x_set_w12
  clear R_x_f_w13 lt_x_f
  clear R_x_set_w13 lt_x_set
  have hpos : ¬ (1 + (l_f.length : Int) + (l_set.length : Int)) < (0 : Int) := by omega
  go_wp2_with fail
  refine (eq_same v_im v_sp r _ _ _ R_im_w13.out R_sp_w13.out (by omega)).mono ?_
  rintro e w14 ⟨rfl, hbw14⟩
  have hzw14 : w13.heap.size ≤ w14.heap.size := hbw14.size
  have R_sp_w14 := Lib.hid (R_sp_w13.out.below hbw14)
  clear R_sp_w13
  have R_im_w14 := Lib.hid (R_im_w13.out.below hbw14)
  clear R_im_w13
  have HBw14 : Hid (Below w.heap.size w w14) := Lib.hid (HBw13.out.trans (hbw14.mono HBw13.out.size))
  have hww14 := HBw14.out.size
  clear hbw14 HBw13
  go_wp2_with fail
  refine (mark_any v_im r _ (1) _ R_im_w14.out (by omega) (by omega) (by omega)).mono ?_
  rintro e w15 ⟨rfl, hrw15, hgw15⟩
  have hzw15 : w14.heap.size ≤ w15.heap.size := hgw15.size
  have R_sp_w15 := Lib.hid (R_sp_w14.out.keep (w' := w15) fun g hg => hgw15.block g (R_sp_w14.out.lt g hg).2 fun e => by have h1 := lt_sp.out g hg; have h2 := lt_im.out g e.symm; omega)
  clear R_sp_w14
  have HBw15 : Hid (Below w.heap.size w w15) := Lib.hid (Below.grown HBw14.out hgw15 (by omega) (fun g e => by have h2 := lt_im.out g e; omega))
  have hww15 := HBw15.out.size
  have R_im_w15 := Lib.hid hrw15
  clear hrw15 hgw15 HBw14 R_im_w14
  go_wp2_with fail
  refine (held_any v_im r.length _ (1) _ R_im_w15.out (by omega) (by omega) (by omega)).mono ?_
  rintro e wx1 ⟨rfl, rfl⟩
  go_wp2_with fail
  refine (toIntS_any _ l_f _ (HS_f.out.below HBw15.out (Nat.le_refl _)) b_f).mono ?_
  rintro e w16 ⟨v_t_f, rfl, hrw16, hbw16⟩
  have hzw16 : w15.heap.size ≤ w16.heap.size := hbw16.size
  have R_sp_w16 := Lib.hid (R_sp_w15.out.below hbw16)
  clear R_sp_w15
  have R_im_w16 := Lib.hid (R_im_w15.out.below hbw16)
  clear R_im_w15
  have HBw16 : Hid (Below w.heap.size w w16) := Lib.hid (HBw15.out.trans (hbw16.mono HBw15.out.size))
  have hww16 := HBw16.out.size
  clear hbw16 HBw15
  have R_t_f_w16 := Lib.hid hrw16; clear hrw16
  have lt_t_f : Hid (∀ g, v_t_f.ownBlock = some g → w15.heap.size ≤ g ∧ g < w16.heap.size) := Lib.hid R_t_f_w16.out.lt
  go_wp2_with fail
  refine (toIntS_any _ l_set _ (HS_set.out.below HBw16.out (Nat.le_refl _)) b_set).mono ?_
  rintro e w17 ⟨v_t_set, rfl, hrw17, hbw17⟩
  have hzw17 : w16.heap.size ≤ w17.heap.size := hbw17.size
  have R_sp_w17 := Lib.hid (R_sp_w16.out.below hbw17)
  clear R_sp_w16
  have R_im_w17 := Lib.hid (R_im_w16.out.below hbw17)
  clear R_im_w16
  have R_t_f_w17 := Lib.hid (R_t_f_w16.out.below hbw17)
  clear R_t_f_w16
  have HBw17 : Hid (Below w.heap.size w w17) := Lib.hid (HBw16.out.trans (hbw17.mono HBw16.out.size))
  have hww17 := HBw17.out.size
  clear hbw17 HBw16
  have R_t_set_w17 := Lib.hid hrw17; clear hrw17
  have lt_t_set : Hid (∀ g, v_t_set.ownBlock = some g → w16.heap.size ≤ g ∧ g < w17.heap.size) := Lib.hid R_t_set_w17.out.lt
  go_wp2_with fail
  refine (K2.out _ v_t_f R_t_f_w17.out.sl v_t_set R_t_set_w17.out.sl).mono ?_
  rintro e w18 ⟨v_im2, rfl, hrw18, hbw18⟩
  have hzw18 : w17.heap.size ≤ w18.heap.size := hbw18.size
  have R_sp_w18 := Lib.hid (R_sp_w17.out.below hbw18)
  clear R_sp_w17
  have R_im_w18 := Lib.hid (R_im_w17.out.below hbw18)
  clear R_im_w17
  have R_t_f_w18 := Lib.hid (R_t_f_w17.out.below hbw18)
  clear R_t_f_w17
  have R_t_set_w18 := Lib.hid (R_t_set_w17.out.below hbw18)
  clear R_t_set_w17
  have HBw18 : Hid (Below w.heap.size w w18) := Lib.hid (HBw17.out.trans (hbw18.mono HBw17.out.size))
  have hww18 := HBw18.out.size
  clear hbw18 HBw17
  have R_im2_w18 := Lib.hid hrw18; clear hrw18
  have lt_im2 : Hid (∀ g, v_im2.ownBlock = some g → w17.heap.size ≤ g ∧ g < w18.heap.size) := Lib.hid R_im2_w18.out.lt
  clear R_t_f_w18 lt_t_f
  clear R_t_set_w18 lt_t_set
  go_wp2_with fail
  refine (eq_same v_im2 v_sp r _ _ _ R_im2_w18.out R_sp_w18.out (by omega)).mono ?_
  rintro e w19 ⟨rfl, hbw19⟩
  have hzw19 : w18.heap.size ≤ w19.heap.size := hbw19.size
  have R_sp_w19 := Lib.hid (R_sp_w18.out.below hbw19)
  clear R_sp_w18
  have R_im_w19 := Lib.hid (R_im_w18.out.below hbw19)
  clear R_im_w18
  have R_im2_w19 := Lib.hid (R_im2_w18.out.below hbw19)
  clear R_im2_w18
  have HBw19 : Hid (Below w.heap.size w w19) := Lib.hid (HBw18.out.trans (hbw19.mono HBw18.out.size))
  have hww19 := HBw19.out.size
  clear hbw19 HBw18
  go_wp2_with fail
  refine (held_any v_im r.length _ (1) _ R_im_w19.out (by omega) (by omega) (by omega)).mono ?_
  rintro e wx2 ⟨rfl, rfl⟩
  go_wp2
  go_ret
  exact ⟨rfl, HBw19.out⟩
end Go.Proofs.Ytnmdcmbcackchaa
