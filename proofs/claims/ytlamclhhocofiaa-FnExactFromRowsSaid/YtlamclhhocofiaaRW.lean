/- impl.mapped at the closure of impl.field.fromRows, impl.field.fromRows, impl.FromRows, by contracts. -/
import Derived.Test.YtlamclhhocofiaaRV
import Derived.Test.YtlamclhhocofiaaRT
import Derived.Deep.RegionHeld3
namespace Go.Proofs.Ytlamclhhocofiaa
open Go.RowKit
set_option maxHeartbeats 1000000 in
/-- The closure of impl.mapped over elements, at impl.field.fromRows$1. -/
theorem clo_fr (q x y : Int) (Fb Vb i n g cap A0 A1 : Nat) (w : World) (hin : i < n)
    (HX : ∀ w', Below w.heap.size w w' → Calls Try.prog 110 #[elE q x, .pointer (some ⟨Fb, 0, none⟩), .pointer (some ⟨Vb, 0, none⟩)] w' fun e w'' => e = .returned (elE q y) ∧ Below w'.heap.size w' w'')
    (c0 : w.cell? ⟨A0, 0, none⟩ = some (.func (.func 110) #[] #[.pointer (some ⟨Fb, 0, none⟩), .pointer (some ⟨Vb, 0, none⟩)])) (c1 : w.cell? ⟨A1, 0, none⟩ = some (.slice (some ⟨g, 0, none⟩) n cap))
    (he : w.cell? ⟨g, i * 7, none⟩ = some (.int .i64 q) ∧ w.cell? ⟨g, i * 7 + 1, none⟩ = some (.int .i64 (pr q)) ∧ w.cell? ⟨g, i * 7 + 2, none⟩ = some (.int .i64 (pl q)) ∧
      w.cell? ⟨g, i * 7 + 3, none⟩ = some (.int .i64 (dg q x 0)) ∧ w.cell? ⟨g, i * 7 + 4, none⟩ = some (.int .i64 (dg q x 1)) ∧ w.cell? ⟨g, i * 7 + 5, none⟩ = some (.int .i64 (dg q x 2)) ∧ w.cell? ⟨g, i * 7 + 6, none⟩ = some (.int .i64 (dg q x 3))) :
    Calls Try.prog 141 #[.int .i64 i, .pointer (some ⟨A0, 0, none⟩), .pointer (some ⟨A1, 0, none⟩)] w fun e w' => e = .returned (elE q y) ∧ Below w.heap.size w w' := by
  have HXX := Lib.hid HX; clear HX
  obtain ⟨e0, e1, e2, e3, e4, e5, e6⟩ := he
  have l0 := World.block_lt_of_cell? w _ c0
  have l1 := World.block_lt_of_cell? w _ c1
  have l2 := World.block_lt_of_cell? w _ e0
  simp only at l0 l1 l2
  go_enter Try.func141, Try.ntmps141
  go_wp2_with fail
  go_region_with (go_at_call 110; refine (HXX.out _ (by (repeat' (first | (with_reducible assumption) | (with_reducible exact Below.refl _ _) | (with_reducible refine below_drewN ?_ _) | (with_reducible refine Below.drew ?_) | (with_reducible refine Below.alloc ?_ ?_ _) | (with_reducible refine Below.setCell ?_ ?_ _) | (with_reducible refine Below.trans ?_ (Below.mono (by assumption) ?_)) | (with_reducible exact Nat.le_refl _) | (with_reducible assumption) | omega | (simp; omega) | (simp; done))))).mono ?_; rintro e w1 ⟨rfl, hb1⟩; obtain ⟨hc1, hf1⟩ := bcell hb1; (try simp only [World.size_drew] at hc1 hf1); have hz1 := hb1.size; (try simp at hz1); have HB1 := Lib.hid hb1; clear hb1; have l3 : w.heap.size < w1.heap.size := (by omega))
  all_goals
    go_wp2_with fail
    have hb1 := HB1.out
    have q0 : w1.heap[w.heap.size]? = some zeroblk := (hb1.block _ (by simp)).trans (heap_alloc_new w _)
    obtain ⟨s0, s1, s2, s3, s4, s5, s6, sf, sl⟩ := seven q0
    clear q0
    refine bodyPost_ret (v := elE q y) (by simp [results, Try.results141, go_sem, s0, s1, s2, s3, s4, s5, s6]) rfl ⟨rfl, ?_⟩
    (repeat' (first | (with_reducible assumption) | (with_reducible exact Below.refl _ _) | (with_reducible refine below_drewN ?_ _) | (with_reducible refine Below.drew ?_) | (with_reducible refine Below.alloc ?_ ?_ _) | (with_reducible refine Below.setCell ?_ ?_ _) | (with_reducible refine Below.trans ?_ (Below.mono (by assumption) ?_)) | (with_reducible exact Nat.le_refl _) | (with_reducible assumption) | omega | (simp; omega) | (simp; done)))
set_option maxHeartbeats 1000000 in
/-- impl.mapped over elements, at impl.field.fromRows$1. -/
theorem mapped_fr (q : Int) (Fb Vb : Nat) (v : Value) (f f2 : Nat → Int) (n : Nat) (w : World) (hv : Se w v q f n) (hl : n ≤ 1000)
    (HC : ∀ i, i < n → ∀ w', Below w.heap.size w w' → Calls Try.prog 110 #[elE q (f i), .pointer (some ⟨Fb, 0, none⟩), .pointer (some ⟨Vb, 0, none⟩)] w' fun e w'' => e = .returned (elE q (f2 i)) ∧ Below w'.heap.size w' w'') :
    Calls Try.prog 114 #[v, .func (.func 110) #[] #[.pointer (some ⟨Fb, 0, none⟩), .pointer (some ⟨Vb, 0, none⟩)]] w fun e w' => ∃ g, e = .returned (.slice (some ⟨g, 0, none⟩) n n) ∧ w.heap.size ≤ g ∧ Blk w' g n ∧ Els w' g q f2 n ∧ Below w.heap.size w w' := by
  obtain ⟨g, cap, rfl, hg, he⟩ := hv
  have HX : Hid (∀ (T1 T2 : TypeId) (i : Nat) w', i < n → Below ((w.alloc (.cells #[.slice (some ⟨g, 0, none⟩) n cap] T1)).alloc (.cells #[.func (.func 110) #[] #[.pointer (some ⟨Fb, 0, none⟩), .pointer (some ⟨Vb, 0, none⟩)]] T2)).heap.size ((w.alloc (.cells #[.slice (some ⟨g, 0, none⟩) n cap] T1)).alloc (.cells #[.func (.func 110) #[] #[.pointer (some ⟨Fb, 0, none⟩), .pointer (some ⟨Vb, 0, none⟩)]] T2)) w' →
      Calls Try.prog 141 #[.int .i64 i, .pointer (some ⟨w.heap.size + 1, 0, none⟩), .pointer (some ⟨w.heap.size, 0, none⟩)] w' fun e w'' => e = .returned (elE q (f2 i)) ∧ Below w'.heap.size w' w'') := Lib.hid fun T1 T2 i w' hi hb => by
    have hbw : Below w.heap.size w w' := by (repeat' (first | (with_reducible assumption) | (with_reducible exact Below.refl _ _) | (with_reducible refine below_drewN ?_ _) | (with_reducible refine Below.drew ?_) | (with_reducible refine Below.alloc ?_ ?_ _) | (with_reducible refine Below.setCell ?_ ?_ _) | (with_reducible refine Below.trans ?_ (Below.mono (by assumption) ?_)) | (with_reducible exact Nat.le_refl _) | (with_reducible assumption) | omega | (simp; omega) | (simp; done)))
    refine clo_fr q _ _ Fb Vb i n g cap _ _ w' hi (fun w'' hb'' => HC i hi w'' (hbw.trans (hb''.mono hbw.size))) (at_box (T := T2) ?_) (at_box (T := T1) ?_) ?_
    · rw [hb.block _ (by simp)]
      have := heap_alloc_new (w.alloc (.cells #[.slice (some ⟨g, 0, none⟩) n cap] T1)) (.cells #[.func (.func 110) #[] #[.pointer (some ⟨Fb, 0, none⟩), .pointer (some ⟨Vb, 0, none⟩)]] T2)
      simpa using this
    · rw [hb.block _ (by simp; omega), Below.heap_alloc _ _ _ (by simp)]
      exact heap_alloc_new w _
    · exact (he.below hbw hg) i hi
  clear HC he
  go_enter Try.func114, Try.ntmps114
  go_wp2_with fail
  refine (listOf_EE q n f2 (w.heap.size + 1) w.heap.size _ hl (HX.out _ _)).mono ?_
  rintro e w1 ⟨rfl, hk1, he1, hb1⟩
  have HK := Lib.hid hk1; clear hk1
  have HE := Lib.hid he1; clear he1
  have HB1 := Lib.hid hb1; clear hb1
  go_wp2
  go_ret
  have hb1 := HB1.out
  exact ⟨_, rfl, by omega, by simpa using HK.out, by simpa using HE.out, by (repeat' (first | (with_reducible assumption) | (with_reducible exact Below.refl _ _) | (with_reducible refine below_drewN ?_ _) | (with_reducible refine Below.drew ?_) | (with_reducible refine Below.alloc ?_ ?_ _) | (with_reducible refine Below.setCell ?_ ?_ _) | (with_reducible refine Below.trans ?_ (Below.mono (by assumption) ?_)) | (with_reducible exact Nat.le_refl _) | (with_reducible assumption) | omega | (simp; omega) | (simp; done)))⟩

set_option maxRecDepth 100000 in
set_option maxHeartbeats 8000000 in
/-- impl.field.fromRows. -/
theorem fromRowsE (m n B : Nat) (v : Value) (F : Nat → List Int) (X : Nat → Value) (w : World) (h : isSz (m : Int) = true) (hv : RS w B v n F X) (hr : rws (m : Int) n F = true) :
    Calls Try.prog 71 #[fdE (m : Int), v] w fun e w' => ∃ g k cap f, e = .returned (polyE (m : Int) (.slice (some ⟨g, 0, none⟩) k cap)) ∧ g < w'.heap.size ∧ Els w' g (m : Int) f k ∧ (∀ i, El (m : Int) (f i)) ∧ k ≤ m ∧ fl f k = ftl m (frT m F) ∧ Below w.heap.size w w' := by
  have hq := isSz_le (m : Int) h
  obtain ⟨hnk, hF⟩ := rws_parts hr
  have HV := Lib.hid (fun i (hi : i < n) => frm_el h (hF i hi).1 (hF i hi).2)
  have HMR := Lib.hid (fun w' (hb : Below w.heap.size w w') => mappedRE (m : Int) n (min B w.heap.size) v F X w' h ((hv.mono (Nat.min_le_left _ _)).below hb) hr)
  have HE := Lib.hid (fun w => elements_any (m : Int) w h)
  rw [Int.toNat_natCast] at HE
  have HTE := Lib.hid (fun x (_ : x < m) => frT_el (x := x) h hr)
  have HM := Lib.hid (fun (Vb gv cap : Nat) (v : Value) (w' : World) (hFb : w'.heap[w.heap.size]? = some (ffblk (m : Int))) (hB : w'.cell? ⟨Vb, 0, none⟩ = some (.slice (some ⟨gv, 0, none⟩) n cap)) (hg : gv < w'.heap.size) (he : Els w' gv (m : Int) (fun i => frm (pr (m : Int)) (F i)) n) (hs : Se w' v (m : Int) (fun j => (j : Int)) m) =>
    mapped_fr (m : Int) w.heap.size Vb v (fun j => (j : Int)) (frT m F) m w' hs (by omega) (fun i hi w'' hb'' => by
      have := fromRowsClo (m : Int) (i : Int) (fun i => frm (pr (m : Int)) (F i)) n w.heap.size Vb gv cap w'' h hnk (fun i hi => HV.out i hi) ((hb''.block _ (Array.getElem?_eq_some_iff.1 hFb).1).trans hFb) ((hb''.cell (p := ⟨Vb, 0, none⟩) (World.block_lt_of_cell? w' _ hB)).trans hB) (by have := hb''.size; omega) (he.below hb'' hg)
      have e : lsum (m : Int) (fun j => mulF (m : Int) (dg (m : Int) (i : Int) j) (frm (pr (m : Int)) (F j))) n = frT m F i := by rw [hnk]; rfl
      rw [e] at this
      exact this))
  have HPT := Lib.hid (fun v w' (hs : Se w' v (m : Int) (frT m F) m) => withTableT m v (frT m F) w' h hs HTE.out)
  obtain ⟨av, cv, rfl⟩ := hv.slc
  clear hv hr h hF hnk HV HTE
  generalize (fun i => frm (pr (m : Int)) (F i)) = V at *
  generalize frT m F = T at *
  go_enter Try.func71, Try.ntmps71
  go_wp2_with fail
  refine (HMR.out _ (by (repeat' (first | (with_reducible assumption) | (with_reducible exact Below.refl _ _) | (with_reducible refine below_drewN ?_ _) | (with_reducible refine Below.drew ?_) | (with_reducible refine Below.alloc ?_ ?_ _) | (with_reducible refine Below.setCell ?_ ?_ _) | (with_reducible refine Below.trans ?_ (Below.mono (by assumption) ?_)) | (with_reducible exact Nat.le_refl _) | (with_reducible assumption) | omega | (simp; omega) | (simp; done))))).mono ?_
  rintro e w1 ⟨g1, rfl, hg1, hk1, he1, hb1⟩
  have hz1 := hb1.size
  simp at hz1 hg1
  have lg1 := hk1.lt
  have HT2 := Lib.hid (two w (ffblk (m : Int)) pzblk)
  have hb12 : Below (w.heap.size + 2) ((w.alloc (ffblk (m : Int))).alloc pzblk) w1 := hb1.mono (by simp)
  have HF1 : Hid (w1.heap[w.heap.size]? = some (ffblk (m : Int))) := Lib.hid ((hb12.block _ (by omega)).trans HT2.out.1)
  have HR1 : Hid (w1.heap[w.heap.size + 1]? = some pzblk) := Lib.hid ((hb12.block _ (by omega)).trans HT2.out.2)
  have HB1 : Hid (Below w.heap.size w w1) := Lib.hid (by (repeat' (first | (with_reducible assumption) | (with_reducible exact Below.refl _ _) | (with_reducible refine below_drewN ?_ _) | (with_reducible refine Below.drew ?_) | (with_reducible refine Below.alloc ?_ ?_ _) | (with_reducible refine Below.setCell ?_ ?_ _) | (with_reducible refine Below.trans ?_ (Below.mono (by assumption) ?_)) | (with_reducible exact Nat.le_refl _) | (with_reducible assumption) | omega | (simp; omega) | (simp; done))))
  have HE1 := Lib.hid he1
  clear hk1 he1 hb1 hb12 HT2 HMR
  have HKEEP : Hid (∀ w', Below (w.heap.size + 1) w1 w' → w'.cell? ⟨w.heap.size, 0, none⟩ = some (.int .i64 m) ∧ w'.cell? ⟨w.heap.size, 1, none⟩ = some (.int .i64 (pr m)) ∧ w'.cell? ⟨w.heap.size, 2, none⟩ = some (.int .i64 (pl m))) := Lib.hid fun w' hb => by
    obtain ⟨x0, x1, x2, _⟩ := cells3' ((hb.block _ (by omega)).trans HF1.out)
    exact ⟨x0, x1, x2⟩
  have HQ : Hid (∀ w', Below (w1.heap.size + 1) (w1.alloc (.cells #[.slice (some ⟨g1, 0, none⟩) n n] 46)) w' → w'.heap[w.heap.size]? = some (ffblk (m : Int)) ∧ w'.cell? ⟨w1.heap.size, 0, none⟩ = some (.slice (some ⟨g1, 0, none⟩) n n) ∧ g1 < w'.heap.size ∧ Els w' g1 (m : Int) V n) := Lib.hid fun w' hb => by
    have hb1 : Below w1.heap.size w1 w' := by (repeat' (first | (with_reducible assumption) | (with_reducible exact Below.refl _ _) | (with_reducible refine below_drewN ?_ _) | (with_reducible refine Below.drew ?_) | (with_reducible refine Below.alloc ?_ ?_ _) | (with_reducible refine Below.setCell ?_ ?_ _) | (with_reducible refine Below.trans ?_ (Below.mono (by assumption) ?_)) | (with_reducible exact Nat.le_refl _) | (with_reducible assumption) | omega | (simp; omega) | (simp; done)))
    exact ⟨(hb1.block _ (by omega)).trans HF1.out, at_box (T := 46) ((hb.block _ (by omega)).trans (heap_alloc_new w1 _)), by have := hb1.size; omega, HE1.out.below hb1 lg1⟩
  have HMM := Lib.hid (fun v w' (hb : Below (w1.heap.size + 1) (w1.alloc (.cells #[.slice (some ⟨g1, 0, none⟩) n n] 46)) w') (hs : Se w' v (m : Int) (fun j => (j : Int)) m) => by
    obtain ⟨q1, q2, q3, q4⟩ := HQ.out w' hb
    exact HM.out w1.heap.size g1 n v w' q1 q2 q3 q4 hs)
  clear HF1 HE1 HM HQ
  obtain ⟨z0, z1, z2, z3, zf, zl⟩ := cells4 HR1.out
  have hz12 : w.heap.size + 1 < w1.heap.size := by omega
  have hz13 : w.heap.size < w1.heap.size := by omega
  go_wp2_with fail
  go_region_held3 (fun w' => w'.cell? ⟨w.heap.size, 0, none⟩ = some (.int .i64 m) ∧ w'.cell? ⟨w.heap.size, 1, none⟩ = some (.int .i64 (pr m)) ∧ w'.cell? ⟨w.heap.size, 2, none⟩ = some (.int .i64 (pl m)))
    (exact HKEEP.out _ (by (try have hb3 := HB3.out); (try have hb4 := HB4.out); (try have hb5 := HB5.out); (repeat' (first | (with_reducible assumption) | (with_reducible exact Below.refl _ _) | (with_reducible refine below_drewN ?_ _) | (with_reducible refine Below.drew ?_) | (with_reducible refine Below.alloc ?_ ?_ _) | (with_reducible refine Below.setCell ?_ ?_ _) | (with_reducible refine Below.trans ?_ (Below.mono (by assumption) ?_)) | (with_reducible exact Nat.le_refl _) | (with_reducible assumption) | omega | (simp; omega) | (simp; done)))))
    (first
    | (go_at_call 115; refine (HE.out _).mono ?_; rintro e w3 ⟨g3, cp3, rfl, hg3, hk3, he3, hb3⟩; have HSE3 : Hid (Se w3 (.slice (some ⟨g3, 0, none⟩) m cp3) (m : Int) (fun j => (j : Int)) m) := Lib.hid ⟨g3, cp3, rfl, hk3.lt, he3⟩; clear hk3 he3; obtain ⟨hc3, hf3⟩ := bcell hb3; (try simp only [World.size_drew] at hc3 hf3); have hz3 := hb3.size; (try simp at hz3); have HB3 := Lib.hid hb3; clear hb3; have l3 : w1.heap.size + 1 < w3.heap.size + 1 := (by omega); have l31 : w.heap.size + 1 < w3.heap.size := (by omega))
    | (go_at_call 114; refine (HMM.out _ _ (by have hb3 := HB3.out; (repeat' (first | (with_reducible assumption) | (with_reducible exact Below.refl _ _) | (with_reducible refine below_drewN ?_ _) | (with_reducible refine Below.drew ?_) | (with_reducible refine Below.alloc ?_ ?_ _) | (with_reducible refine Below.setCell ?_ ?_ _) | (with_reducible refine Below.trans ?_ (Below.mono (by assumption) ?_)) | (with_reducible exact Nat.le_refl _) | (with_reducible assumption) | omega | (simp; omega) | (simp; done)))) HSE3.out).mono ?_; rintro e w4 ⟨g4, rfl, hg4, hk4, he4, hb4⟩; have HSE4 : Hid (Se w4 (.slice (some ⟨g4, 0, none⟩) m m) (m : Int) T m) := Lib.hid ⟨g4, _, rfl, hk4.lt, he4⟩; clear hk4 he4; obtain ⟨hc4, hf4⟩ := bcell hb4; (try simp only [World.size_drew] at hc4 hf4); have hz4 := hb4.size; (try simp at hz4); have HB4 := Lib.hid hb4; clear hb4; have l4 : w.heap.size + 1 < w4.heap.size := (by omega))
    | (go_at_call 113; refine (HPT.out _ _ HSE4.out).mono ?_; rintro e w5 ⟨g5, k5, cp5, f5, rfl, hg5, he5, hf5, hk5, hl5, hb5⟩; have HE5 := Lib.hid he5; have HF5 := Lib.hid hf5; have HL5 := Lib.hid hl5; clear he5 hf5 hl5; obtain ⟨hc5, hf5⟩ := bcell hb5; (try simp only [World.size_drew] at hc5 hf5); have hz5 := hb5.size; (try simp at hz5); have HB5 := Lib.hid hb5; clear hb5; have l5 : w.heap.size + 1 < w5.heap.size := (by omega)))
  all_goals
    go_wp2_with fail
    have hb1 := HB1.out
    have hb3 := HB3.out
    have hb4 := HB4.out
    have hb5 := HB5.out
    have hr : w5.heap[w.heap.size + 1]? = some pzblk := (Below.block (B := w1.heap.size) (w := w1) (by (repeat' (first | (with_reducible assumption) | (with_reducible exact Below.refl _ _) | (with_reducible refine below_drewN ?_ _) | (with_reducible refine Below.drew ?_) | (with_reducible refine Below.alloc ?_ ?_ _) | (with_reducible refine Below.setCell ?_ ?_ _) | (with_reducible refine Below.trans ?_ (Below.mono (by assumption) ?_)) | (with_reducible exact Nat.le_refl _) | (with_reducible assumption) | omega | (simp; omega) | (simp; done)))) _ (by omega)).trans HR1.out
    obtain ⟨r0, r1, r2, r3, rf, rl0⟩ := cells4 hr
    refine bodyPost_ret (v := polyE (m : Int) (.slice (some ⟨g5, 0, none⟩) k5 cp5)) (by simp [results, Try.results71, go_sem, r0, r1, r2, r3]) rfl ⟨g5, k5, cp5, f5, rfl, by simp; omega, ?_, HF5.out, hk5, HL5.out, ?_⟩
    · exact HE5.out.over hr (by omega) (fun k hk => by (repeat' (first | (with_reducible rfl) | (with_reducible refine (heap_setCell_other _ _ _ _ ?_).trans ?_) | (with_reducible refine (drew_heap' _ _).trans ?_) | exact hk)))
    · (repeat' (first | (with_reducible assumption) | (with_reducible exact Below.refl _ _) | (with_reducible refine below_drewN ?_ _) | (with_reducible refine Below.drew ?_) | (with_reducible refine Below.alloc ?_ ?_ _) | (with_reducible refine Below.setCell ?_ ?_ _) | (with_reducible refine Below.trans ?_ (Below.mono (by assumption) ?_)) | (with_reducible exact Nat.le_refl _) | (with_reducible assumption) | omega | (simp; omega) | (simp; done)))
end Go.Proofs.Ytlamclhhocofiaa
