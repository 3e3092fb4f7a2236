/- Sums of powers of values, of both, by contracts; PowerSumOf and ByPowerSums; the walks of their laws. -/
import Derived.Test.YtnmdcmbcackchaaLC
import Derived.Test.YtnmdcmbcackchaaKG
namespace Go.Proofs.Ytnmdcmbcackchaa
open Go.RowKit
theorem at_box' {w : World} {b : Nat} {v : Value} {T : TypeId} (h : w.heap[b]? = some (.cells #[v] T (0, 0))) : w.cell? ⟨b, 0, none⟩ = some v := at_box h
set_option maxHeartbeats 2000000 in
/-- The closure of impl.field.powerSum. -/
theorem psClo (q x : Int) (K KB : Nat) (w : World) (h : isSz q = true) (hx : El q x) (hK : K ≤ 1000) (hc : w.cell? ⟨KB, 0, none⟩ = some (.int .i64 K)) :
    Calls Try.prog 106 #[elE q x, .pointer (some ⟨KB, 0, none⟩)] w fun e w' => e = .returned (elE q (pw q x K)) ∧ Below w.heap.size w w' := by
  have HP := Lib.hid (fun w => by have := powerE q x (K : Int) w h hx.1 hx.2 (by omega) (by omega); rw [Int.toNat_natCast] at this; exact this)
  have l0 := World.block_lt_of_cell? w _ hc
  simp only at l0
  clear h hx
  generalize pw q x K = y at *
  go_enter Try.func106, Try.ntmps106
  go_wp2_with fail
  refine (HP.out _).mono ?_
  rintro e w1 ⟨rfl, hb1⟩
  obtain ⟨hc1, hf1⟩ := bcell hb1; have hz1 := hb1.size; (try simp at hz1); have HB1 := Lib.hid hb1; clear hb1
  have l1 : w.heap.size + 1 < w1.heap.size := by omega
  go_wp2_with fail
  have hb1 := HB1.out
  have hr : w1.heap[w.heap.size + 1]? = some zeroblk := (hb1.block _ (by simp)).trans (two w (eblk q x) zeroblk).2
  obtain ⟨s0, s1, s2, s3, s4, s5, s6, sf, sl⟩ := seven hr
  refine bodyPost_ret (v := elE q y) (by simp [results, Try.results106, go_sem, s0, s1, s2, s3, s4, s5, s6]) rfl ⟨rfl, ?_⟩
  (repeat' (first | (with_reducible assumption) | (with_reducible exact Below.refl _ _) | (with_reducible refine below_drewN ?_ _) | (with_reducible refine Below.drew ?_) | (with_reducible refine Below.alloc ?_ ?_ _) | (with_reducible refine Below.setCell ?_ ?_ _) | (with_reducible refine Below.trans ?_ (Below.mono (by assumption) ?_)) | (with_reducible exact Nat.le_refl _) | (with_reducible assumption) | omega | (simp; omega) | (simp; done)))
set_option maxHeartbeats 2000000 in
/-- The closure of impl.mapped over elements, at that closure. -/
theorem clo_ps (q x y : Int) (KB i n g cap A0 A1 : Nat) (w : World) (hin : i < n)
    (HX : ∀ w', Below w.heap.size w w' → Calls Try.prog 106 #[elE q x, .pointer (some ⟨KB, 0, none⟩)] w' fun e w'' => e = .returned (elE q y) ∧ Below w'.heap.size w' w'')
    (hc : w.cell? ⟨A0, 0, none⟩ = some (.func (.func 106) #[] #[.pointer (some ⟨KB, 0, none⟩)]) ∧ w.cell? ⟨A1, 0, none⟩ = some (.slice (some ⟨g, 0, none⟩) n cap) ∧ w.cell? ⟨g, i * 7, none⟩ = some (.int .i64 q) ∧ w.cell? ⟨g, i * 7 + 1, none⟩ = some (.int .i64 (pr q)) ∧ w.cell? ⟨g, i * 7 + 2, none⟩ = some (.int .i64 (pl q)) ∧ w.cell? ⟨g, i * 7 + 3, none⟩ = some (.int .i64 (dg q x 0)) ∧ w.cell? ⟨g, i * 7 + 4, none⟩ = some (.int .i64 (dg q x 1)) ∧ w.cell? ⟨g, i * 7 + 5, none⟩ = some (.int .i64 (dg q x 2)) ∧ w.cell? ⟨g, i * 7 + 6, none⟩ = some (.int .i64 (dg q x 3))) :
    Calls Try.prog 87 #[.int .i64 i, .pointer (some ⟨A0, 0, none⟩), .pointer (some ⟨A1, 0, none⟩)] w fun e w' => e = .returned (elE q y) ∧ Below w.heap.size w w' := by
  have HXX := Lib.hid HX; clear HX
  obtain ⟨c0, c1, e0, e1, e2, e3, e4, e5, e6⟩ := hc
  have l0 := World.block_lt_of_cell? w _ c0
  have l1 := World.block_lt_of_cell? w _ c1
  have l2 := World.block_lt_of_cell? w _ e0
  simp only at l0 l1 l2
  have HKEEP : Hid (∀ w', Below w.heap.size w w' → w'.cell? ⟨A0, 0, none⟩ = some (.func (.func 106) #[] #[.pointer (some ⟨KB, 0, none⟩)]) ∧ w'.cell? ⟨A1, 0, none⟩ = some (.slice (some ⟨g, 0, none⟩) n cap) ∧ w'.cell? ⟨g, i * 7, none⟩ = some (.int .i64 q) ∧ w'.cell? ⟨g, i * 7 + 1, none⟩ = some (.int .i64 (pr q)) ∧ w'.cell? ⟨g, i * 7 + 2, none⟩ = some (.int .i64 (pl q)) ∧ w'.cell? ⟨g, i * 7 + 3, none⟩ = some (.int .i64 (dg q x 0)) ∧ w'.cell? ⟨g, i * 7 + 4, none⟩ = some (.int .i64 (dg q x 1)) ∧ w'.cell? ⟨g, i * 7 + 5, none⟩ = some (.int .i64 (dg q x 2)) ∧ w'.cell? ⟨g, i * 7 + 6, none⟩ = some (.int .i64 (dg q x 3))) := Lib.hid fun w' hb => by
    exact ⟨(hb.cell (p := ⟨A0, 0, none⟩) l0).trans c0, (hb.cell (p := ⟨A1, 0, none⟩) l1).trans c1, (hb.cell (p := ⟨g, i * 7, none⟩) l2).trans e0, (hb.cell (p := ⟨g, i * 7 + 1, none⟩) l2).trans e1, (hb.cell (p := ⟨g, i * 7 + 2, none⟩) l2).trans e2, (hb.cell (p := ⟨g, i * 7 + 3, none⟩) l2).trans e3, (hb.cell (p := ⟨g, i * 7 + 4, none⟩) l2).trans e4, (hb.cell (p := ⟨g, i * 7 + 5, none⟩) l2).trans e5, (hb.cell (p := ⟨g, i * 7 + 6, none⟩) l2).trans e6⟩
  go_enter Try.func87, Try.ntmps87
  go_wp2_with fail
  go_region_held3 (fun w' => w'.cell? ⟨A0, 0, none⟩ = some (.func (.func 106) #[] #[.pointer (some ⟨KB, 0, none⟩)]) ∧ w'.cell? ⟨A1, 0, none⟩ = some (.slice (some ⟨g, 0, none⟩) n cap) ∧ w'.cell? ⟨g, i * 7, none⟩ = some (.int .i64 q) ∧ w'.cell? ⟨g, i * 7 + 1, none⟩ = some (.int .i64 (pr q)) ∧ w'.cell? ⟨g, i * 7 + 2, none⟩ = some (.int .i64 (pl q)) ∧ w'.cell? ⟨g, i * 7 + 3, none⟩ = some (.int .i64 (dg q x 0)) ∧ w'.cell? ⟨g, i * 7 + 4, none⟩ = some (.int .i64 (dg q x 1)) ∧ w'.cell? ⟨g, i * 7 + 5, none⟩ = some (.int .i64 (dg q x 2)) ∧ w'.cell? ⟨g, i * 7 + 6, none⟩ = some (.int .i64 (dg q x 3)))
    (exact HKEEP.out _ (by (try have hb1 := HB1.out); (repeat' (first | (with_reducible assumption) | (with_reducible exact Below.refl _ _) | (with_reducible refine below_drewN ?_ _) | (with_reducible refine Below.drew ?_) | (with_reducible refine Below.alloc ?_ ?_ _) | (with_reducible refine Below.setCell ?_ ?_ _) | (with_reducible refine Below.trans ?_ (Below.mono (by assumption) ?_)) | (with_reducible exact Nat.le_refl _) | (with_reducible assumption) | omega | (simp; omega) | (simp; done)))))
    (first | (go_at_call 106; refine (HXX.out _ (by (repeat' (first | (with_reducible assumption) | (with_reducible exact Below.refl _ _) | (with_reducible refine below_drewN ?_ _) | (with_reducible refine Below.drew ?_) | (with_reducible refine Below.alloc ?_ ?_ _) | (with_reducible refine Below.setCell ?_ ?_ _) | (with_reducible refine Below.trans ?_ (Below.mono (by assumption) ?_)) | (with_reducible exact Nat.le_refl _) | (with_reducible assumption) | omega | (simp; omega) | (simp; done))))).mono ?_; rintro e w1 ⟨rfl, hb1⟩; obtain ⟨hc1, hf1⟩ := bcell hb1; (try simp only [World.size_drew] at hc1 hf1); have hz1 := hb1.size; (try simp at hz1); have HB1 := Lib.hid hb1; clear hb1; have l3 : w.heap.size < w1.heap.size := (by omega)))
  all_goals
    go_wp2_with fail
    have hb1 := HB1.out
    have q0 : w1.heap[w.heap.size]? = some zeroblk := (hb1.block _ (by simp)).trans (heap_alloc_new w _)
    obtain ⟨s0, s1, s2, s3, s4, s5, s6, sf, sl⟩ := seven q0
    clear q0
    refine bodyPost_ret (v := elE q y) (by simp [results, Try.results87, go_sem, s0, s1, s2, s3, s4, s5, s6]) rfl ⟨rfl, ?_⟩
    (repeat' (first | (with_reducible assumption) | (with_reducible exact Below.refl _ _) | (with_reducible refine below_drewN ?_ _) | (with_reducible refine Below.drew ?_) | (with_reducible refine Below.alloc ?_ ?_ _) | (with_reducible refine Below.setCell ?_ ?_ _) | (with_reducible refine Below.trans ?_ (Below.mono (by assumption) ?_)) | (with_reducible exact Nat.le_refl _) | (with_reducible assumption) | omega | (simp; omega) | (simp; done)))
set_option maxHeartbeats 2000000 in
/-- impl.mapped over elements, at that closure. -/
theorem mapped_ps (q : Int) (KB : Nat) (v : Value) (f f2 : Nat → Int) (n : Nat) (w : World) (hv : Se w v q f n) (hl : n ≤ 1000)
    (HC : ∀ i, i < n → ∀ w', Below w.heap.size w w' → Calls Try.prog 106 #[elE q (f i), .pointer (some ⟨KB, 0, none⟩)] w' fun e w'' => e = .returned (elE q (f2 i)) ∧ Below w'.heap.size w' w'') :
    Calls Try.prog 61 #[v, .func (.func 106) #[] #[.pointer (some ⟨KB, 0, none⟩)]] w fun e w' => ∃ g, e = .returned (.slice (some ⟨g, 0, none⟩) n n) ∧ w.heap.size ≤ g ∧ Blk w' g n ∧ Els w' g q f2 n ∧ Below w.heap.size w w' := by
  obtain ⟨g, cap, rfl, hg, he⟩ := hv
  have HX : Hid (∀ (T1 T2 : TypeId) (i : Nat) w', i < n → Below ((w.alloc (.cells #[.slice (some ⟨g, 0, none⟩) n cap] T1)).alloc (.cells #[.func (.func 106) #[] #[.pointer (some ⟨KB, 0, none⟩)]] T2)).heap.size ((w.alloc (.cells #[.slice (some ⟨g, 0, none⟩) n cap] T1)).alloc (.cells #[.func (.func 106) #[] #[.pointer (some ⟨KB, 0, none⟩)]] T2)) w' →
      Calls Try.prog 87 #[.int .i64 i, .pointer (some ⟨w.heap.size + 1, 0, none⟩), .pointer (some ⟨w.heap.size, 0, none⟩)] w' fun e w'' => e = .returned (elE q (f2 i)) ∧ Below w'.heap.size w' w'') := Lib.hid fun T1 T2 i w' hi hb => by
    have hbw : Below w.heap.size w w' := by (repeat' (first | (with_reducible assumption) | (with_reducible exact Below.refl _ _) | (with_reducible refine below_drewN ?_ _) | (with_reducible refine Below.drew ?_) | (with_reducible refine Below.alloc ?_ ?_ _) | (with_reducible refine Below.setCell ?_ ?_ _) | (with_reducible refine Below.trans ?_ (Below.mono (by assumption) ?_)) | (with_reducible exact Nat.le_refl _) | (with_reducible assumption) | omega | (simp; omega) | (simp; done)))
    obtain ⟨t0, t1⟩ := two w (.cells #[.slice (some ⟨g, 0, none⟩) n cap] T1) (.cells #[.func (.func 106) #[] #[.pointer (some ⟨KB, 0, none⟩)]] T2)
    exact clo_ps q _ _ KB i n g cap _ _ w' hi (fun w'' hb'' => HC i hi w'' (hbw.trans (hb''.mono hbw.size)))
      ⟨at_box (T := T2) ((hb.block _ (by simp)).trans t1), at_box (T := T1) ((hb.block _ (by simp; omega)).trans t0), (he.below hbw hg) i hi⟩
  clear HC he
  go_enter Try.func61, Try.ntmps61
  go_wp2_with fail
  refine (listOf_EE q n f2 (w.heap.size + 1) w.heap.size _ hl (HX.out _ _)).mono ?_
  rintro e w1 ⟨rfl, hk1, he1, hb1⟩
  have HK := Lib.hid hk1; clear hk1
  have HE := Lib.hid he1; clear he1
  have HB1 := Lib.hid hb1; clear hb1
  go_wp2
  go_ret
  have hb1 := HB1.out
  exact ⟨_, rfl, by omega, by simpa using HK.out, by simpa using HE.out, by (repeat' (first | (with_reducible assumption) | (with_reducible exact Below.refl _ _) | (with_reducible refine below_drewN ?_ _) | (with_reducible refine Below.drew ?_) | (with_reducible refine Below.alloc ?_ ?_ _) | (with_reducible refine Below.setCell ?_ ?_ _) | (with_reducible refine Below.trans ?_ (Below.mono (by assumption) ?_)) | (with_reducible exact Nat.le_refl _) | (with_reducible assumption) | omega | (simp; omega) | (simp; done)))⟩

/-- The sum of the powers k of a table's values. -/
def psum (m : Nat) (t : Nat → Int) (k : Nat) : Int := lsum (m : Int) (fun i => pw (m : Int) (t i) k) m
theorem psum_el {m k : Nat} {t : Nat → Int} (h : isSz (m : Int) = true) (ht : ∀ i, i < m → El (m : Int) (t i)) : El (m : Int) (psum m t k) := lsum_el h fun i hi => El.pw h (ht i hi) k
set_option maxRecDepth 100000 in
set_option maxHeartbeats 8000000 in
/-- impl.field.powerSum. -/
theorem powerSumE (m K : Nat) (v : Value) (t : Nat → Int) (w : World) (h : isSz (m : Int) = true) (hv : Se w v (m : Int) t m) (ht : ∀ i, i < m → El (m : Int) (t i)) (hK : K ≤ 1000) :
    Calls Try.prog 82 #[fdE (m : Int), v, .int .i64 K] w fun e w' => e = .returned (elE (m : Int) (psum m t K)) ∧ Below w.heap.size w w' := by
  have hq := isSz_le (m : Int) h
  have HM := Lib.hid (fun w' KB (hb : Below w.heap.size w w') (hKB : w'.cell? ⟨KB, 0, none⟩ = some (.int .i64 K)) => mapped_ps (m : Int) KB v t (fun i => pw (m : Int) (t i) K) m w' (hv.below hb (Nat.le_refl _)) (by omega)
    (fun i hi w'' hb'' => psClo (m : Int) (t i) K KB w'' h (ht i hi) hK ((hb''.cell (p := ⟨KB, 0, none⟩) (World.block_lt_of_cell? w' _ hKB)).trans hKB)))
  have HS := Lib.hid (fun v w' (hs : Se w' v (m : Int) (fun i => pw (m : Int) (t i) K) m) => sumOfE (m : Int) v (fun i => pw (m : Int) (t i) K) m w' h hs (fun i hi => El.pw h (ht i hi) K) (by omega))
  have HI : Hid (lsum (m : Int) (fun i => pw (m : Int) (t i) K) m = psum m t K) := Lib.hid rfl
  clear hv ht h
  generalize psum m t K = y at *
  generalize (fun i => pw (m : Int) (t i) K) = T at *
  rw [HI.out] at HS
  clear HI
  go_enter Try.func82, Try.ntmps82
  go_wp2_with fail
  have HT3 := Lib.hid (three w (ffblk (m : Int)) (.cells #[.int .i64 K] 3) zeroblk)
  have HKEEP : Hid (∀ w', Below (w.heap.size + 2) ((w.alloc (ffblk (m : Int))).alloc (.cells #[.int .i64 K] 3)) w' → w'.cell? ⟨w.heap.size, 0, none⟩ = some (.int .i64 m) ∧ w'.cell? ⟨w.heap.size, 1, none⟩ = some (.int .i64 (pr m)) ∧ w'.cell? ⟨w.heap.size, 2, none⟩ = some (.int .i64 (pl m))) := Lib.hid fun w' hb => by
    obtain ⟨t0, t1⟩ := two w (ffblk (m : Int)) (.cells #[.int .i64 K] 3)
    obtain ⟨x0, x1, x2, _⟩ := cells3' ((hb.block _ (by omega)).trans t0)
    exact ⟨x0, x1, x2⟩
  have HKB : Hid (∀ w', Below (w.heap.size + 2) ((w.alloc (ffblk (m : Int))).alloc (.cells #[.int .i64 K] 3)) w' → w'.cell? ⟨w.heap.size + 1, 0, none⟩ = some (.int .i64 K)) := Lib.hid fun w' hb => at_box (T := 3) ((hb.block _ (by omega)).trans (two w (ffblk (m : Int)) (.cells #[.int .i64 K] 3)).2)
  go_region_held3 (fun w' => w'.cell? ⟨w.heap.size, 0, none⟩ = some (.int .i64 m) ∧ w'.cell? ⟨w.heap.size, 1, none⟩ = some (.int .i64 (pr m)) ∧ w'.cell? ⟨w.heap.size, 2, none⟩ = some (.int .i64 (pl m)))
    (exact HKEEP.out _ (by (try have hb3 := HB3.out); (try have hb4 := HB4.out); (repeat' (first | (with_reducible assumption) | (with_reducible exact Below.refl _ _) | (with_reducible refine below_drewN ?_ _) | (with_reducible refine Below.drew ?_) | (with_reducible refine Below.alloc ?_ ?_ _) | (with_reducible refine Below.setCell ?_ ?_ _) | (with_reducible refine Below.trans ?_ (Below.mono (by assumption) ?_)) | (with_reducible exact Nat.le_refl _) | (with_reducible assumption) | omega | (simp; omega) | (simp; done)))))
    (first
    | (go_at_call 61; refine (HM.out _ _ (by (repeat' (first | (with_reducible assumption) | (with_reducible exact Below.refl _ _) | (with_reducible refine below_drewN ?_ _) | (with_reducible refine Below.drew ?_) | (with_reducible refine Below.alloc ?_ ?_ _) | (with_reducible refine Below.setCell ?_ ?_ _) | (with_reducible refine Below.trans ?_ (Below.mono (by assumption) ?_)) | (with_reducible exact Nat.le_refl _) | (with_reducible assumption) | omega | (simp; omega) | (simp; done)))) (HKB.out _ (by (repeat' (first | (with_reducible assumption) | (with_reducible exact Below.refl _ _) | (with_reducible refine below_drewN ?_ _) | (with_reducible refine Below.drew ?_) | (with_reducible refine Below.alloc ?_ ?_ _) | (with_reducible refine Below.setCell ?_ ?_ _) | (with_reducible refine Below.trans ?_ (Below.mono (by assumption) ?_)) | (with_reducible exact Nat.le_refl _) | (with_reducible assumption) | omega | (simp; omega) | (simp; done)))))).mono ?_; rintro e w3 ⟨g3, rfl, hg3, hk3, he3, hb3⟩; have HSE3 : Hid (Se w3 (.slice (some ⟨g3, 0, none⟩) m m) (m : Int) T m) := Lib.hid ⟨g3, _, rfl, hk3.lt, he3⟩; clear hk3 he3; obtain ⟨hc3, hf3⟩ := bcell hb3; (try simp only [World.size_drew] at hc3 hf3); have hz3 := hb3.size; (try simp at hz3); have HB3 := Lib.hid hb3; clear hb3; have l3 : w.heap.size + 2 < w3.heap.size := (by omega))
    | (go_at_call 97; refine (HS.out _ _ HSE3.out).mono ?_; rintro e w4 ⟨rfl, hb4⟩; obtain ⟨hc4, hf4⟩ := bcell hb4; (try simp only [World.size_drew] at hc4 hf4); have hz4 := hb4.size; (try simp at hz4); have HB4 := Lib.hid hb4; clear hb4; have l4 : w.heap.size + 2 < w4.heap.size := (by omega)))
  all_goals
    go_wp2_with fail
    have hb3 := HB3.out
    have hb4 := HB4.out
    have hr : w4.heap[w.heap.size + 2]? = some zeroblk := (Below.block (B := w.heap.size + 3) (w := ((w.alloc (ffblk (m : Int))).alloc (.cells #[.int .i64 K] 3)).alloc zeroblk) (by (repeat' (first | (with_reducible assumption) | (with_reducible exact Below.refl _ _) | (with_reducible refine below_drewN ?_ _) | (with_reducible refine Below.drew ?_) | (with_reducible refine Below.alloc ?_ ?_ _) | (with_reducible refine Below.setCell ?_ ?_ _) | (with_reducible refine Below.trans ?_ (Below.mono (by assumption) ?_)) | (with_reducible exact Nat.le_refl _) | (with_reducible assumption) | omega | (simp; omega) | (simp; done)))) (w.heap.size + 2) (by omega)).trans HT3.out.2.2
    obtain ⟨s0, s1, s2, s3, s4, s5, s6, sf, sl⟩ := seven hr
    refine bodyPost_ret (v := elE (m : Int) y) (by simp [results, Try.results82, go_sem, s0, s1, s2, s3, s4, s5, s6]) rfl ⟨rfl, ?_⟩
    (repeat' (first | (with_reducible assumption) | (with_reducible exact Below.refl _ _) | (with_reducible refine below_drewN ?_ _) | (with_reducible refine Below.drew ?_) | (with_reducible refine Below.alloc ?_ ?_ _) | (with_reducible refine Below.setCell ?_ ?_ _) | (with_reducible refine Below.trans ?_ (Below.mono (by assumption) ?_)) | (with_reducible exact Nat.le_refl _) | (with_reducible assumption) | omega | (simp; omega) | (simp; done)))
end Go.Proofs.Ytnmdcmbcackchaa
