/- WithValues, of both, by contracts; the walk of its law. -/
import Derived.Test.YtnmdcmbcackchaaOO
import Derived.Test.YtnmdcmbcackchaaOB
import Derived.Test.YtnmdcmbcackchaaLJ
namespace Go.Proofs.Ytnmdcmbcackchaa
open Go.RowKit
/-- The table with a list's elements in order, then the last one. -/
def wt (l : List Int) : Nat → Int := fun x => l.getD (min x (l.length - 1)) 0
theorem wt_el {m : Nat} {l : List Int} (h : rsn (m : Int) l = true) (h0 : 0 < l.length) (i : Nat) : El (m : Int) (wt l i) := by
  simp only [rsn, Bool.and_eq_true] at h
  have hi : min i (l.length - 1) < l.length := by omega
  have := List.all_eq_true.1 h.1 _ (show l.getD (min i (l.length - 1)) 0 ∈ l by rw [show l.getD (min i (l.length - 1)) 0 = l[min i (l.length - 1)] by simp [List.getD, hi]]; exact List.getElem_mem hi)
  simp only [inF, Bool.and_eq_true, decide_eq_true_iff] at this
  exact this
def wvOK (q : Int) (l : List Int) : Bool := (isSz q && rsn q l) && !decide (l.length = 0)
theorem l1Least_any (a b : Int) (w : World) : Calls Try.prog 65 #[.int .i64 a, .int .i64 b] w fun e w' => e = .returned (.int .i64 (min a b)) ∧ w = w' := by
  by_cases h : a < b
  · rw [show min a b = a by omega]
    go_enter Try.func65, Try.ntmps65
    go_wp2
    go_ret
    exact ⟨rfl, rfl⟩
  · rw [show min a b = b by omega]
    go_enter Try.func65, Try.ntmps65
    go_wp2
    go_ret
    exact ⟨rfl, rfl⟩
theorem spec_WithValues_no (q : Int) (v : Value) (l : List Int) (w : World) (hv : Sl w v l) (hl : l.length ≤ 1048576) (h : wvOK q l = false) :
    Calls Try.prog 35 #[.int .i64 q, v] w fun e w' => e = .returned (.tuple #[.slice none 0 0, .bool false]) ∧ Below w.heap.size w w' := by
  have hp := vaRising_any q v l w hv hl
  obtain ⟨a, cap, rfl⟩ := hv.form
  cases hr : isSz q && rsn q l with
  | false =>
    rw [hr] at hp
    have HP := Lib.hid hp
    clear hp hr hv h
    go_enter Try.func35, Try.ntmps35
    go_wp2_with fail
    refine HP.out.mono ?_
    rintro e w1 ⟨rfl, hb1⟩
    go_wp2
    go_ret2
    exact ⟨rfl, hb1⟩
  | true =>
    rw [hr] at hp
    have h0 : l.length = 0 := by
      simp only [wvOK, hr, Bool.true_and] at h
      simpa using h
    have HP := Lib.hid hp
    clear hp hr hv h
    generalize l.length = n at *
    subst h0
    go_enter Try.func35, Try.ntmps35
    go_wp2_with fail
    refine HP.out.mono ?_
    rintro e w1 ⟨rfl, hb1⟩
    go_wp2
    go_ret2
    exact ⟨rfl, hb1⟩
set_option maxRecDepth 100000 in
set_option maxHeartbeats 4000000 in
theorem spec_WithValues_yes (m : Nat) (v : Value) (l : List Int) (w : World) (hv : Sl w v l) (h : isSz (m : Int) = true) (hr : rsn (m : Int) l = true) (h0 : 0 < l.length) :
    Calls Try.prog 35 #[.int .i64 m, v] w fun e w' => ∃ v', e = .returned (.tuple #[v', .bool true]) ∧ Row w' w.heap.size v' (ftl m (wt l)) ∧ Below w.heap.size w w' := by
  have hq := isSz_le (m : Int) h
  have hsl := rsn_len hr
  have hp := vaRising_any (m : Int) v l w hv (by omega)
  rw [h, hr] at hp
  have HP := Lib.hid hp
  have hwt := wt_el hr h0
  have HF := Lib.hid (fun v' w' (hs : Sl w' v' (fl (wt l) m)) => plFromT m v' (wt l) w' h hs (fun i _ => hwt i))
  have HL := Lib.hid (fun a b w => l1Least_any a b w)
  have HW : Hid (∀ i, wt l i = l.getD (min i (l.length - 1)) 0) := Lib.hid fun _ => rfl
  obtain ⟨i0, hi, iz0, iz1, iz2⟩ := info_parts Try.infoI
  obtain ⟨b, off, cap, rfl, hb, hcc⟩ := hv.open rfl h0
  have HC := Lib.hid hcc
  clear hp hv h hr hwt hcc
  have HF0 : Hid (fl (wt l) 0 = []) := Lib.hid rfl
  have HFS := Lib.hid (fl_succ (wt l))
  have HFL := Lib.hid (fl_len (wt l))
  generalize ftl m (wt l) = R at *
  generalize wt l = t at *
  generalize l.length = n at *
  have hwn : IntKind.i64.wrap ((n : Int) - 1) = (n : Int) - 1 := IntWalk.i64_in _ (by omega)
  have hn0 : ¬ n = 0 := by omega
  have hnb : ((n : Int) == 0) = false := by simp; omega
  go_enter Try.func35, Try.ntmps35
  go_wp2_with fail
  refine HP.out.mono ?_
  rintro e w1 ⟨rfl, hb1⟩
  have HB1 := Lib.hid hb1; clear hb1
  have hz1 := HB1.out.size
  go_wp2_with fail
  go_loopw [6, 7] (fun vo vi wr => ∃ k : Nat, k ≤ m ∧ vi = .int .i64 k ∧ Row wr w1.heap.size vo (fl t k) ∧ Below w1.heap.size w1 wr) (fun _ vi _ => m - (intOf vi).toNat)
  case atStart => exact ⟨0, Nat.zero_le _, rfl, by rw [HF0.out]; exact Row.nil _ _, Below.refl _ _⟩
  case round =>
    obtain ⟨k, hk, rfl, hr, hbw⟩ := hrel
    have hz := hbw.size
    have HLn := HFL.out k
    have HR := Lib.hid hr; clear hr
    have HBW := Lib.hid hbw
    have HBWW : Hid (Below w.heap.size w wr) := Lib.hid (HB1.out.trans (hbw.mono hz1))
    clear hbw
    by_cases hlt : k < m
    · obtain ⟨j, hj⟩ : ∃ j, j = min k (n - 1) := ⟨_, rfl⟩
      have hjn : j < n := by omega
      have hck := (HBWW.out.cell (p := ⟨b, off + j, none⟩) hb).trans (HC.out j hjn)
      have hW := HW.out k
      rw [← hj] at hW
      rw [← hW] at hck
      have HFS' := Lib.hid (HFS.out k)
      have HL' : Hid (∀ w, Calls Try.prog 65 #[.int .i64 k, .int .i64 ((n : Int) - 1)] w fun e w' => e = .returned (.int .i64 j) ∧ w = w') := Lib.hid fun w => by
        have := HL.out (k : Int) ((n : Int) - 1) w
        rwa [show min (k : Int) ((n : Int) - 1) = (j : Int) by omega] at this
      clear hW hj
      generalize t k = y at *
      go_wp2_with fail
      refine (HL'.out _).mono ?_
      rintro e _ ⟨rfl, rfl⟩
      go_wp2_with (at_builtin; refine wpList_append_own _ rfl _ _ 22 rfl w1.heap.size 3 i0 (.int .i64 0) 1 8 Try.underlying22 hi iz0 iz1 iz2 rfl (by decide) _ _ _ rfl (World.ownsRow.alloc HR.out _) ⟨wr.heap.size, 0, none⟩ 1 1 [.int .i64 y] rfl rfl ?c1 ?c2 ?c3 ?c4 ?c5 ?_)
      case c1 => exact cell_one_new _ _ _
      case c2 => intro u hu; simp at hu; subst hu; rfl
      case c3 => unfold maxLen; omega
      case c4 => omega
      case c5 => simp; omega
      intro v' w6 hown hgrow _
      have HR6 := Lib.hid (Row.appended (l := fl t k) (by rw [HLn]; exact hown))
      have hb : Below w1.heap.size w1 (wr.alloc (.cells #[.int .i64 y] 3)) := HBW.out.alloc (by omega) _
      have HB6 := Lib.hid (hb.grown hgrow (by simp; omega) (fun g hg => (HR.out.lt g hg).1))
      clear hown hgrow hb
      go_wp2
      go_roundw
      case rel => exact ⟨k + 1, by omega, by go_num, by rw [HFS'.out]; exact HR6.out, HB6.out⟩
      case measure => simp [intOf]; omega
    · obtain rfl : m = k := by omega
      go_wp2_with fail
      refine (HF.out _ _ HR.out.sl).mono ?_
      rintro e w7 ⟨v7, rfl, hr7, hb7⟩
      have HR7 := Lib.hid hr7
      have HB7 : Hid (Below w.heap.size w w7) := Lib.hid (HBWW.out.trans (hb7.mono HBWW.out.size))
      clear hr7 hb7
      go_wp2
      go_ret2
      exact ⟨_, rfl, HR7.out.mono HBWW.out.size, HB7.out⟩
set_option maxHeartbeats 1000000 in
/-- impl.listOf at impl.WithValues$1. -/
theorem listOf_WV (q : Int) (n : Nat) (f : Nat → Int) (A0 A1 A2 : Nat) (w : World) (hn : n ≤ 1000) (HX : ∀ (i : Nat) w', i < n → Below w.heap.size w w' → Calls Try.prog 69 #[.int .i64 i, .pointer (some ⟨A0, 0, none⟩), .pointer (some ⟨A1, 0, none⟩), .pointer (some ⟨A2, 0, none⟩)] w' fun e w'' => e = .returned (elE q (f i)) ∧ Below w'.heap.size w' w'') :
    Calls Try.prog 68 #[.int .i64 n, .func (.func 69) #[] #[.pointer (some ⟨A0, 0, none⟩), .pointer (some ⟨A1, 0, none⟩), .pointer (some ⟨A2, 0, none⟩)]] w fun e w' => e = .returned (.slice (some ⟨w.heap.size, 0, none⟩) n n) ∧ Blk w' w.heap.size n ∧ Els w' w.heap.size q f n ∧ Below w.heap.size w w' := by
  obtain ⟨i0, hi, iz0, iz1, iz2⟩ := info_parts Try.infoE
  have HXX := Lib.hid HX; clear HX
  go_enter Try.func68, Try.ntmps68
  go_wp2_with (at_make; go_must (refine wpList_make_full _ rfl _ _ 44 rfl w.heap.size 57 i0 (.agg #[.int .i64 0, .int .i64 0, .int .i64 0, .int .i64 0, .int .i64 0, .int .i64 0, .int .i64 0]) 7 Try.underlying44 hi iz0 iz1 .i64 .i64 _ _ n rfl rfl rfl rfl ?c3 ?c4 ?c5 ?_))
  case c3 => rw [iz2]; omega
  case c4 => unfold maxLen; omega
  case c5 => simp
  intro w1 hown hgrow
  have hblk : Blk w1 w.heap.size n := by
    rcases hown.2 with ⟨hx, _⟩ | ⟨g, cap, cur, hx, _, hh, _, _, hsz, _⟩
    · simp at hx
    · simp at hx
      obtain ⟨rfl, rfl⟩ := hx
      exact ⟨cur, hh, hsz⟩
  have hb : Below w.heap.size w w1 := (Below.refl _ _).grown hgrow (Nat.le_refl _) (fun k hk => by cases hk)
  have HB1 := Lib.hid hblk
  have HW1 := Lib.hid hb
  clear hown hgrow hblk hb
  go_wp2_with fail
  go_loopw [11] (fun vi wr => ∃ i : Nat, i ≤ n ∧ vi = .int .i64 i ∧ Blk wr w.heap.size n ∧ Els wr w.heap.size q f i ∧ Below w.heap.size w wr) (fun vi _ => n - (intOf vi).toNat)
  case atStart => exact ⟨0, Nat.zero_le _, rfl, HB1.out, fun j hj => by omega, HW1.out⟩
  case round =>
    obtain ⟨i, hi, rfl, hk, he, hb⟩ := hrel
    have HK := Lib.hid hk; clear hk
    have HEl := Lib.hid he; clear he
    have HB := Lib.hid hb; clear hb
    by_cases hlt : i < n
    · have HX' := Lib.hid (HXX.out i _ hlt HB.out)
      have hlt1 := HK.out.lt
      go_wp2_with fail
      refine HX'.out.mono ?_
      rintro e w2 ⟨rfl, hb2⟩
      have hk2 : Blk w2 w.heap.size n := HK.out.below hb2 hlt1
      have he2 : Els w2 w.heap.size q f i := HEl.out.below hb2 hlt1
      have HB2 := Lib.hid (HB.out.trans (hb2.mono HB.out.size))
      clear hb2
      obtain ⟨x0, c0⟩ := hk2.at (i * 7) (by omega)
      obtain ⟨x1, c1⟩ := hk2.at (i * 7 + 1) (by omega)
      obtain ⟨x2, c2⟩ := hk2.at (i * 7 + 2) (by omega)
      obtain ⟨x3, c3⟩ := hk2.at (i * 7 + 3) (by omega)
      obtain ⟨x4, c4⟩ := hk2.at (i * 7 + 4) (by omega)
      obtain ⟨x5, c5⟩ := hk2.at (i * 7 + 5) (by omega)
      obtain ⟨x6, c6⟩ := hk2.at (i * 7 + 6) (by omega)
      have fr := hk2.free
      have HST := Lib.hid (Els.step (f := f) hk2 hlt he2)
      clear hk2 he2
      generalize f i = x at *
      go_wp2
      go_roundw
      case rel => exact ⟨i + 1, by omega, by go_num, HST.out.2, HST.out.1, put7i_below HB2.out _ (Nat.le_refl _) _ _ _⟩
      case measure => simp [intOf]; omega
    · obtain rfl : n = i := by omega
      go_wp2
      go_ret
      exact ⟨rfl, HK.out, HEl.out, HB.out⟩


set_option maxRecDepth 100000 in
set_option maxHeartbeats 4000000 in
/-- The closure of impl.WithValues. -/
theorem wvClo (m i j k n b off cap F V L : Nat) (y : Int) (w : World) (h : isSz (m : Int) = true) (hy : El (m : Int) y) (hkn : k < n) (_hi : i ≤ 1000) (hj : (k < i ∧ j = k) ∨ (¬ k < i ∧ j = i))
    (hc : w.cell? ⟨b, off + j, none⟩ = some (.int .i64 y)) (hF : w.heap[F]? = some (ffblk (m : Int))) (hV : w.cell? ⟨V, 0, none⟩ = some (.slice (some ⟨b, off, none⟩) n cap)) (hL : w.cell? ⟨L, 0, none⟩ = some (.int .i64 (k : Int))) :
    Calls Try.prog 69 #[.int .i64 i, .pointer (some ⟨F, 0, none⟩), .pointer (some ⟨V, 0, none⟩), .pointer (some ⟨L, 0, none⟩)] w fun e w' => e = .returned (elE (m : Int) y) ∧ Below w.heap.size w w' := by
  have hq := isSz_le (m : Int) h
  have HE := Lib.hid (fun w => elementE (m : Int) y w h hy.1 hy.2)
  have lF : F < w.heap.size := (Array.getElem?_eq_some_iff.1 hF).1
  have lb := World.block_lt_of_cell? w _ hc
  have lV := World.block_lt_of_cell? w _ hV
  have lL := World.block_lt_of_cell? w _ hL
  simp only at lb lV lL
  have HKEEP : Hid (∀ w', Below w.heap.size w w' → w'.cell? ⟨F, 0, none⟩ = some (.int .i64 m) ∧ w'.cell? ⟨F, 1, none⟩ = some (.int .i64 (pr m)) ∧ w'.cell? ⟨F, 2, none⟩ = some (.int .i64 (pl m)) ∧ w'.cell? ⟨V, 0, none⟩ = some (.slice (some ⟨b, off, none⟩) n cap) ∧ w'.cell? ⟨L, 0, none⟩ = some (.int .i64 (k : Int)) ∧ w'.cell? ⟨b, off + j, none⟩ = some (.int .i64 y)) := Lib.hid fun w' hb => by
    obtain ⟨x0, x1, x2, _⟩ := cells3' ((hb.block _ lF).trans hF)
    exact ⟨x0, x1, x2, (hb.cell (p := ⟨V, 0, none⟩) lV).trans hV, (hb.cell (p := ⟨L, 0, none⟩) lL).trans hL, (hb.cell (p := ⟨b, off + j, none⟩) lb).trans hc⟩
  clear h hy hF hV hL hc
  have hjn : j < n := by omega
  have hjn' : (j : Int) < (n : Int) := by omega
  have hj0 : (0 : Int) ≤ (j : Int) := by omega
  rcases hj with ⟨hki, rfl⟩ | ⟨hki, rfl⟩
  · skip
    go_enter Try.func69, Try.ntmps69
    go_wp2_with fail
    go_region_held3 (fun w' => w'.cell? ⟨F, 0, none⟩ = some (.int .i64 m) ∧ w'.cell? ⟨F, 1, none⟩ = some (.int .i64 (pr m)) ∧ w'.cell? ⟨F, 2, none⟩ = some (.int .i64 (pl m)) ∧ w'.cell? ⟨V, 0, none⟩ = some (.slice (some ⟨b, off, none⟩) n cap) ∧ w'.cell? ⟨L, 0, none⟩ = some (.int .i64 (j : Int)) ∧ w'.cell? ⟨b, off + j, none⟩ = some (.int .i64 y))
      (exact HKEEP.out _ (by (try have hb1 := HB1.out); (repeat' (first | (with_reducible assumption) | (with_reducible exact Below.refl _ _) | (with_reducible refine below_drewN ?_ _) | (with_reducible refine Below.drew ?_) | (with_reducible refine Below.alloc ?_ ?_ _) | (with_reducible refine Below.setCell ?_ ?_ _) | (with_reducible refine Below.trans ?_ (Below.mono (by assumption) ?_)) | (with_reducible exact Nat.le_refl _) | (with_reducible assumption) | omega | (simp; omega) | (simp; done)))))
      (first
      | (go_at_call 63; refine (HE.out _).mono ?_; rintro e w1 ⟨rfl, hb1⟩; obtain ⟨hc1, hf1⟩ := bcell hb1; (try simp only [World.size_drew] at hc1 hf1); have hz1 := hb1.size; (try simp at hz1); have HB1 := Lib.hid hb1; clear hb1; have l1 : w.heap.size < w1.heap.size := (by omega)))
    all_goals
      go_wp2_with fail
      have hb1 := HB1.out
      have q0 : w1.heap[w.heap.size]? = some zeroblk := (Below.block (B := w.heap.size + 1) (w := w.alloc zeroblk) (by (repeat' (first | (with_reducible assumption) | (with_reducible exact Below.refl _ _) | (with_reducible refine below_drewN ?_ _) | (with_reducible refine Below.drew ?_) | (with_reducible refine Below.alloc ?_ ?_ _) | (with_reducible refine Below.setCell ?_ ?_ _) | (with_reducible refine Below.trans ?_ (Below.mono (by assumption) ?_)) | (with_reducible exact Nat.le_refl _) | (with_reducible assumption) | omega | (simp; omega) | (simp; done)))) w.heap.size (by omega)).trans (heap_alloc_new w _)
      obtain ⟨s0, s1, s2, s3, s4, s5, s6, sf, sl⟩ := seven q0
      clear q0
      refine bodyPost_ret (v := elE (m : Int) y) (by simp [results, Try.results69, go_sem, s0, s1, s2, s3, s4, s5, s6]) rfl ⟨rfl, ?_⟩
      (repeat' (first | (with_reducible assumption) | (with_reducible exact Below.refl _ _) | (with_reducible refine below_drewN ?_ _) | (with_reducible refine Below.drew ?_) | (with_reducible refine Below.alloc ?_ ?_ _) | (with_reducible refine Below.setCell ?_ ?_ _) | (with_reducible refine Below.trans ?_ (Below.mono (by assumption) ?_)) | (with_reducible exact Nat.le_refl _) | (with_reducible assumption) | omega | (simp; omega) | (simp; done)))
  · skip
    go_enter Try.func69, Try.ntmps69
    go_wp2_with fail
    go_region_held3 (fun w' => w'.cell? ⟨F, 0, none⟩ = some (.int .i64 m) ∧ w'.cell? ⟨F, 1, none⟩ = some (.int .i64 (pr m)) ∧ w'.cell? ⟨F, 2, none⟩ = some (.int .i64 (pl m)) ∧ w'.cell? ⟨V, 0, none⟩ = some (.slice (some ⟨b, off, none⟩) n cap) ∧ w'.cell? ⟨L, 0, none⟩ = some (.int .i64 (k : Int)) ∧ w'.cell? ⟨b, off + j, none⟩ = some (.int .i64 y))
      (exact HKEEP.out _ (by (try have hb1 := HB1.out); (repeat' (first | (with_reducible assumption) | (with_reducible exact Below.refl _ _) | (with_reducible refine below_drewN ?_ _) | (with_reducible refine Below.drew ?_) | (with_reducible refine Below.alloc ?_ ?_ _) | (with_reducible refine Below.setCell ?_ ?_ _) | (with_reducible refine Below.trans ?_ (Below.mono (by assumption) ?_)) | (with_reducible exact Nat.le_refl _) | (with_reducible assumption) | omega | (simp; omega) | (simp; done)))))
      (first
      | (go_at_call 63; refine (HE.out _).mono ?_; rintro e w1 ⟨rfl, hb1⟩; obtain ⟨hc1, hf1⟩ := bcell hb1; (try simp only [World.size_drew] at hc1 hf1); have hz1 := hb1.size; (try simp at hz1); have HB1 := Lib.hid hb1; clear hb1; have l1 : w.heap.size < w1.heap.size := (by omega)))
    all_goals
      go_wp2_with fail
      have hb1 := HB1.out
      have q0 : w1.heap[w.heap.size]? = some zeroblk := (Below.block (B := w.heap.size + 1) (w := w.alloc zeroblk) (by (repeat' (first | (with_reducible assumption) | (with_reducible exact Below.refl _ _) | (with_reducible refine below_drewN ?_ _) | (with_reducible refine Below.drew ?_) | (with_reducible refine Below.alloc ?_ ?_ _) | (with_reducible refine Below.setCell ?_ ?_ _) | (with_reducible refine Below.trans ?_ (Below.mono (by assumption) ?_)) | (with_reducible exact Nat.le_refl _) | (with_reducible assumption) | omega | (simp; omega) | (simp; done)))) w.heap.size (by omega)).trans (heap_alloc_new w _)
      obtain ⟨s0, s1, s2, s3, s4, s5, s6, sf, sl⟩ := seven q0
      clear q0
      refine bodyPost_ret (v := elE (m : Int) y) (by simp [results, Try.results69, go_sem, s0, s1, s2, s3, s4, s5, s6]) rfl ⟨rfl, ?_⟩
      (repeat' (first | (with_reducible assumption) | (with_reducible exact Below.refl _ _) | (with_reducible refine below_drewN ?_ _) | (with_reducible refine Below.drew ?_) | (with_reducible refine Below.alloc ?_ ?_ _) | (with_reducible refine Below.setCell ?_ ?_ _) | (with_reducible refine Below.trans ?_ (Below.mono (by assumption) ?_)) | (with_reducible exact Nat.le_refl _) | (with_reducible assumption) | omega | (simp; omega) | (simp; done)))
theorem impl_WithValues_no (q : Int) (v : Value) (l : List Int) (w : World) (hv : Sl w v l) (hl : l.length ≤ 1048576) (h : wvOK q l = false) :
    Calls Try.prog 36 #[.int .i64 q, v] w fun e w' => e = .returned (.tuple #[.slice none 0 0, .bool false]) ∧ Below w.heap.size w w' := by
  obtain ⟨a, cap, rfl⟩ := hv.form
  cases hz : isSz q with
  | false =>
    have HF := Lib.hid (fun w => fieldOf_no q w hz)
    clear hv h hz
    generalize l.length = n at *
    go_enter Try.func36, Try.ntmps36
    go_wp2_with fail
    refine (HF.out _).mono ?_
    rintro e w1 ⟨rfl, hb1⟩
    have hz_hb1 := hb1.size; (try simp at hz_hb1)
    have HB1 := Lib.hid hb1; clear hb1
    go_wp2_with fail
    go_ret2
    have hb1 := HB1.out
    exact ⟨rfl, by (repeat' (first | (with_reducible assumption) | (with_reducible exact Below.refl _ _) | (with_reducible refine below_drewN ?_ _) | (with_reducible refine Below.drew ?_) | (with_reducible refine Below.alloc ?_ ?_ _) | (with_reducible refine Below.setCell ?_ ?_ _) | (with_reducible refine Below.trans ?_ (Below.mono (by assumption) ?_)) | (with_reducible exact Nat.le_refl _) | (with_reducible assumption) | omega | (simp; omega) | (simp; done)))⟩
  | true =>
    have HF := Lib.hid (fun w => fieldOf_yes q w hz)
    have HS := Lib.hid (fun w' (hb : Below w.heap.size w w') => isSetE q (.slice a l.length cap) l w' (hv.below hb (Nat.le_refl _)) hl)
    cases hr : rsn q l with
    | true =>
      have h0 : l.length = 0 := by
        simp only [wvOK, hr, hz, Bool.true_and] at h
        simpa using h
      clear hv h hz hr HS
      generalize l.length = n at *
      subst h0
      go_enter Try.func36, Try.ntmps36
      go_wp2_with fail
      refine (HF.out _).mono ?_
      rintro e w1 ⟨rfl, hb1⟩
      have hV := at_box ((hb1.block w.heap.size (by simp)).trans (heap_alloc_new w (lblk 22 (.slice a 0 cap))))
      have lV : w.heap.size < w1.heap.size := World.block_lt_of_cell? w1 _ hV
      have hz_hb1 := hb1.size; (try simp at hz_hb1)
      have HB1 := Lib.hid hb1; clear hb1
      go_wp2_with fail
      go_ret2
      have hb1 := HB1.out
      exact ⟨rfl, by (repeat' (first | (with_reducible assumption) | (with_reducible exact Below.refl _ _) | (with_reducible refine below_drewN ?_ _) | (with_reducible refine Below.drew ?_) | (with_reducible refine Below.alloc ?_ ?_ _) | (with_reducible refine Below.setCell ?_ ?_ _) | (with_reducible refine Below.trans ?_ (Below.mono (by assumption) ?_)) | (with_reducible exact Nat.le_refl _) | (with_reducible assumption) | omega | (simp; omega) | (simp; done)))⟩
    | false =>
      rw [hr] at HS
      clear hv h hz hr
      generalize l.length = n at *
      by_cases h0 : n = 0
      · subst h0
        go_enter Try.func36, Try.ntmps36
        go_wp2_with fail
        refine (HF.out _).mono ?_
        rintro e w1 ⟨rfl, hb1⟩
        have hV := at_box ((hb1.block w.heap.size (by simp)).trans (heap_alloc_new w (lblk 22 (.slice a 0 cap))))
        have lV : w.heap.size < w1.heap.size := World.block_lt_of_cell? w1 _ hV
        have hz_hb1 := hb1.size; (try simp at hz_hb1)
        have HB1 := Lib.hid hb1; clear hb1
        go_wp2_with fail
        go_ret2
        have hb1 := HB1.out
        exact ⟨rfl, by (repeat' (first | (with_reducible assumption) | (with_reducible exact Below.refl _ _) | (with_reducible refine below_drewN ?_ _) | (with_reducible refine Below.drew ?_) | (with_reducible refine Below.alloc ?_ ?_ _) | (with_reducible refine Below.setCell ?_ ?_ _) | (with_reducible refine Below.trans ?_ (Below.mono (by assumption) ?_)) | (with_reducible exact Nat.le_refl _) | (with_reducible assumption) | omega | (simp; omega) | (simp; done)))⟩
      · have hnb : ((n : Int) == 0) = false := by simp; omega
        go_enter Try.func36, Try.ntmps36
        go_wp2_with fail
        refine (HF.out _).mono ?_
        rintro e w1 ⟨rfl, hb1⟩
        have hV := at_box ((hb1.block w.heap.size (by simp)).trans (heap_alloc_new w (lblk 22 (.slice a n cap))))
        have lV : w.heap.size < w1.heap.size := World.block_lt_of_cell? w1 _ hV
        have hz_hb1 := hb1.size; (try simp at hz_hb1)
        have HB1 := Lib.hid hb1; clear hb1
        go_wp2_with fail
        refine (HS.out _ (by have hb1 := HB1.out; (repeat' (first | (with_reducible assumption) | (with_reducible exact Below.refl _ _) | (with_reducible refine below_drewN ?_ _) | (with_reducible refine Below.drew ?_) | (with_reducible refine Below.alloc ?_ ?_ _) | (with_reducible refine Below.setCell ?_ ?_ _) | (with_reducible refine Below.trans ?_ (Below.mono (by assumption) ?_)) | (with_reducible exact Nat.le_refl _) | (with_reducible assumption) | omega | (simp; omega) | (simp; done))))).mono ?_
        rintro e w2 ⟨rfl, hb2⟩
        have hz_hb2 := hb2.size; (try simp at hz_hb2)
        have HB2 := Lib.hid hb2; clear hb2
        go_wp2_with fail
        go_ret2
        have hb1 := HB1.out
        have hb2 := HB2.out
        exact ⟨rfl, by (repeat' (first | (with_reducible assumption) | (with_reducible exact Below.refl _ _) | (with_reducible refine below_drewN ?_ _) | (with_reducible refine Below.drew ?_) | (with_reducible refine Below.alloc ?_ ?_ _) | (with_reducible refine Below.setCell ?_ ?_ _) | (with_reducible refine Below.trans ?_ (Below.mono (by assumption) ?_)) | (with_reducible exact Nat.le_refl _) | (with_reducible assumption) | omega | (simp; omega) | (simp; done)))⟩
set_option maxRecDepth 100000 in
set_option maxHeartbeats 4000000 in
theorem impl_WithValues_yes (m : Nat) (v : Value) (l : List Int) (w : World) (hv : Sl w v l) (h : isSz (m : Int) = true) (hr : rsn (m : Int) l = true) (h0 : 0 < l.length) :
    Calls Try.prog 36 #[.int .i64 m, v] w fun e w' => ∃ v', e = .returned (.tuple #[v', .bool true]) ∧ Row w' w.heap.size v' (ftl m (wt l)) ∧ Below w.heap.size w w' := by
  have hq := isSz_le (m : Int) h
  have hsl := rsn_len hr
  have hwt := wt_el hr h0
  have HF := Lib.hid (fun w => fieldOf_yes (m : Int) w h)
  have HS := Lib.hid (fun w' (hb : Below w.heap.size w w') => by have := isSetE (m : Int) v l w' (hv.below hb (Nat.le_refl _)) (by omega); rw [hr] at this; exact this)
  have HWT := Lib.hid (fun v w' (hs : Se w' v (m : Int) (wt l) m) => withTableT m v (wt l) w' h hs (fun i _ => hwt i))
  have HN := Lib.hid (fun v f k w' (hs : Se w' v (m : Int) f k) (hf : ∀ i, El (m : Int) (f i)) (hk : k ≤ m) => numbersE (m : Int) v f k w' h hs (fun i _ => hf i) (by omega))
  obtain ⟨b, off, cap, rfl, hb, hcc⟩ := hv.open rfl h0
  have HW : Hid (∀ i, wt l i = l.getD (min i (l.length - 1)) 0) := Lib.hid fun _ => rfl
  have HCL := Lib.hid (fun i F V L w' (hi : i < m) (hbw : Below w.heap.size w w') hF hV hL => wvClo m i (min i (l.length - 1)) (l.length - 1) l.length b off cap F V L (wt l i) w' h (hwt i) (by omega) (by omega) (by omega) ((hbw.cell (p := ⟨b, off + min i (l.length - 1), none⟩) hb).trans (hcc (min i (l.length - 1)) (by omega))) hF hV hL)
  clear hv h hr hwt hcc HW
  generalize ftl m (wt l) = R at *
  generalize wt l = t at *
  generalize l.length = n at *
  have hwn : IntKind.i64.wrap ((n : Int) - 1) = (n : Int) - 1 := IntWalk.i64_in _ (by omega)
  have hnb : ((n : Int) == 0) = false := by simp; omega
  have HN1 : Hid ((n : Int) - 1 = ((n - 1 : Nat) : Int)) := Lib.hid (by omega)
  go_enter Try.func36, Try.ntmps36
  go_wp2_with fail
  refine (HF.out _).mono ?_
  rintro e w1 ⟨rfl, hb1⟩
  have hk1 : w1.heap[w.heap.size]? = some (lblk 22 (.slice (some ⟨b, off, none⟩) n cap)) := (hb1.block w.heap.size (by simp)).trans (heap_alloc_new w (lblk 22 (.slice (some ⟨b, off, none⟩) n cap)))
  have hV := at_box hk1
  have lV : w.heap.size < w1.heap.size := World.block_lt_of_cell? w1 _ hV
  have HK1 := Lib.hid hk1
  clear hk1
  have hz_hb1 := hb1.size; (try simp at hz_hb1)
  have HB1 : Hid (Below w.heap.size w w1) := Lib.hid (by (repeat' (first | (with_reducible assumption) | (with_reducible exact Below.refl _ _) | (with_reducible refine below_drewN ?_ _) | (with_reducible refine Below.drew ?_) | (with_reducible refine Below.alloc ?_ ?_ _) | (with_reducible refine Below.setCell ?_ ?_ _) | (with_reducible refine Below.trans ?_ (Below.mono (by assumption) ?_)) | (with_reducible exact Nat.le_refl _) | (with_reducible assumption) | omega | (simp; omega) | (simp; done)))); clear hb1
  go_wp2_with fail
  refine (HS.out _ (by have hb1 := HB1.out; (repeat' (first | (with_reducible assumption) | (with_reducible exact Below.refl _ _) | (with_reducible refine below_drewN ?_ _) | (with_reducible refine Below.drew ?_) | (with_reducible refine Below.alloc ?_ ?_ _) | (with_reducible refine Below.setCell ?_ ?_ _) | (with_reducible refine Below.trans ?_ (Below.mono (by assumption) ?_)) | (with_reducible exact Nat.le_refl _) | (with_reducible assumption) | omega | (simp; omega) | (simp; done))))).mono ?_
  rintro e w2 ⟨rfl, hb2⟩
  have HF2 : Hid (w2.heap[w1.heap.size]? = some (ffblk (m : Int))) := Lib.hid ((hb2.block _ (by simp)).trans (heap_alloc_new w1 _))
  have HV2 : Hid (w2.heap[w.heap.size]? = some (lblk 22 (.slice (some ⟨b, off, none⟩) n cap))) := Lib.hid ((hb2.block _ (by simp; omega)).trans ((Below.heap_alloc w1 _ _ lV).trans HK1.out))
  have hV2 := at_box HV2.out
  have l2 : w1.heap.size < w2.heap.size := (Array.getElem?_eq_some_iff.1 HF2.out).1
  have HB2 : Hid (Below w.heap.size w w2) := Lib.hid (by have hb1 := HB1.out; (repeat' (first | (with_reducible assumption) | (with_reducible exact Below.refl _ _) | (with_reducible refine below_drewN ?_ _) | (with_reducible refine Below.drew ?_) | (with_reducible refine Below.alloc ?_ ?_ _) | (with_reducible refine Below.setCell ?_ ?_ _) | (with_reducible refine Below.trans ?_ (Below.mono (by assumption) ?_)) | (with_reducible exact Nat.le_refl _) | (with_reducible assumption) | omega | (simp; omega) | (simp; done)))); clear hb2 hV
  obtain ⟨f0, f1, f2, ff, fl0⟩ := cells3' HF2.out
  have HL : Hid (∀ L0 w', L0 = Value.int .i64 ((n : Int) - 1) → Below (w2.heap.size + 1) (w2.alloc (.cells #[L0] 3)) w' → w'.heap[w1.heap.size]? = some (ffblk (m : Int)) ∧ w'.cell? ⟨w.heap.size, 0, none⟩ = some (.slice (some ⟨b, off, none⟩) n cap) ∧ w'.cell? ⟨w2.heap.size, 0, none⟩ = some (.int .i64 ((n - 1 : Nat) : Int)) ∧ Below w.heap.size w w') := Lib.hid fun L0 w' hL0 hb => by
    subst hL0
    refine ⟨(hb.block _ (by omega)).trans ((Below.heap_alloc w2 _ _ l2).trans HF2.out), at_box ((hb.block _ (by omega)).trans ((Below.heap_alloc w2 _ _ (by omega)).trans HV2.out)), ?_, ?_⟩
    · have := at_box ((hb.block w2.heap.size (by omega)).trans (heap_alloc_new w2 (.cells #[.int .i64 ((n : Int) - 1)] 3)))
      rw [HN1.out] at this
      exact this
    · have hb2 := HB2.out
      (repeat' (first | (with_reducible assumption) | (with_reducible exact Below.refl _ _) | (with_reducible refine below_drewN ?_ _) | (with_reducible refine Below.drew ?_) | (with_reducible refine Below.alloc ?_ ?_ _) | (with_reducible refine Below.setCell ?_ ?_ _) | (with_reducible refine Below.trans ?_ (Below.mono (by assumption) ?_)) | (with_reducible exact Nat.le_refl _) | (with_reducible assumption) | omega | (simp; omega) | (simp; done)))
  have HLO := Lib.hid (fun w' (hb : Below (w2.heap.size + 1) (w2.alloc (.cells #[.int .i64 ((n : Int) - 1)] 3)) w') => listOf_WV (m : Int) m t w1.heap.size w.heap.size w2.heap.size w' (by omega) (fun i w'' hi hb'' => by
    obtain ⟨z1, z2, z3, z4⟩ := HL.out _ w'' rfl (hb.trans (hb''.mono (by have := hb.size; simp at this; omega)))
    exact HCL.out i _ _ _ w'' hi z4 z1 z2 z3))
  go_wp2_with fail
  refine (HLO.out _ (Below.refl _ _)).mono ?_
  rintro e w3 ⟨rfl, hk3, he3, hb3⟩
  replace hb3 : Below (w2.heap.size + 1) (w2.alloc (.cells #[.int .i64 ((n : Int) - 1)] 3)) w3 := hb3.mono (by simp)
  have HSE3 : Hid (Se w3 (.slice (some ⟨w2.heap.size + 1, 0, none⟩) m m) (m : Int) t m) := Lib.hid ⟨_, _, rfl, by have := hk3.lt; simpa using this, by simpa using he3⟩
  obtain ⟨f0', f1', f2', ff', fl'⟩ := cells3' (HL.out _ w3 rfl hb3).1
  have HB3 : Hid (Below w.heap.size w w3) := Lib.hid (HL.out _ w3 rfl hb3).2.2.2
  clear hk3 he3 hb3 f0 f1 f2 ff fl0 hV2
  go_wp2_with fail
  refine (HWT.out _ _ HSE3.out).mono ?_
  rintro e w4 ⟨g4, k4, cap4, f4, rfl, hg4, he4, hf4, hk4, hfl, hb4⟩
  have HSE4 : Hid (Se w4 (.slice (some ⟨g4, 0, none⟩) k4 cap4) (m : Int) f4 k4) := Lib.hid ⟨_, _, rfl, hg4, he4⟩
  have HFL := Lib.hid hfl
  have HF4 := Lib.hid hf4
  have HB4 : Hid (Below w.heap.size w w4) := Lib.hid (HB3.out.trans (hb4.mono HB3.out.size))
  clear he4 hfl hf4 hb4 f0' f1' f2' ff' fl'
  go_wp2_with fail
  refine (HN.out _ _ _ _ HSE4.out HF4.out hk4).mono ?_
  rintro e w5 ⟨v5, rfl, hr5, hb5⟩
  have HR5 := Lib.hid hr5
  have HB5 : Hid (Below w.heap.size w w5) := Lib.hid (HB4.out.trans (hb5.mono HB4.out.size))
  clear hr5 hb5
  go_wp2
  go_ret2
  exact ⟨_, rfl, by rw [← HFL.out]; exact HR5.out.mono HB4.out.size, HB5.out⟩
theorem key_WithValues (q : Int) (l_values : List Int) (b_values : l_values.length ≤ 1048576) : ∃ (r : List Int) (o : Bool), r.length ≤ 1048576 ∧ (∀ (w : World) (v_values : Value) (_ : Sl w v_values l_values), Calls Try.prog 35 #[.int .i64 q, v_values] w fun e w' => ∃ v, e = .returned (.tuple #[v, .bool o]) ∧ Row w' w.heap.size v r ∧ Below w.heap.size w w') ∧
      (∀ (w : World) (v_values : Value) (_ : Sl w v_values l_values), Calls Try.prog 36 #[.int .i64 q, v_values] w fun e w' => ∃ v, e = .returned (.tuple #[v, .bool o]) ∧ Row w' w.heap.size v r ∧ Below w.heap.size w w') := by
  cases h : wvOK q l_values with
  | false => exact ⟨[], false, by simp, fun w v hv => (spec_WithValues_no q v l_values w hv b_values h).mono (by rintro e w' ⟨rfl, hb⟩; exact ⟨_, rfl, Row.nil _ _, hb⟩), fun w v hv => (impl_WithValues_no q v l_values w hv b_values h).mono (by rintro e w' ⟨rfl, hb⟩; exact ⟨_, rfl, Row.nil _ _, hb⟩)⟩
  | true =>
    simp only [wvOK, Bool.and_eq_true, Bool.not_eq_true', decide_eq_false_iff_not] at h
    have hq := isSz_le q h.1.1
    obtain ⟨m, rfl⟩ := Int.eq_ofNat_of_zero_le (show 0 ≤ q by omega)
    exact ⟨_, true, Nat.le_trans (ftl_len _ _) (by omega), fun w v hv => spec_WithValues_yes m v l_values w hv h.1.1 h.1.2 (by omega), fun w v hv => impl_WithValues_yes m v l_values w hv h.1.1 h.1.2 (by omega)⟩
set_option maxRecDepth 100000 in
set_option maxHeartbeats 4000000 in
/-- laws.FnExactWithValues. -/
theorem walk_FnExactWithValues (q : Int) (a_values : Option Addr) (n_values c_values : Nat) (z_values : List Int) (w : World) (_h_q : (Lit.int .i64 q).wf = true) (h_values : IsRow .i64 w a_values n_values c_values z_values) :
    Calls Try.prog 12 #[.int .i64 q, .slice a_values n_values c_values] w fun e w' => e = .returned (.bool true) ∧ Below w.heap.size w w' := by
  clear _h_q
  obtain ⟨hs_values, hl_values, _⟩ := h_values.sl
  generalize z_values.take n_values = l_values at *
  clear h_values
  subst hl_values
  by_cases b_values : l_values.length ≤ 1048576
  rotate_left
  · have hn_values : (1048576 : Int) < (l_values.length : Int) := by omega
    go_enter Try.func12, Try.ntmps12
    go_wp2
    go_ret
    exact ⟨rfl, Below.refl _ _⟩
  have hn_values : ¬ (1048576 : Int) < (l_values.length : Int) := by omega
  obtain ⟨r, o, hr, k1, k2⟩ := key_WithValues q l_values b_values
  have K1 := Lib.hid k1; clear k1
  have K2 := Lib.hid k2; clear k2
  have HS_values := Lib.hid hs_values; clear hs_values
  have HB0 : Hid (Below w.heap.size w w) := Lib.hid (Below.refl _ _)
  go_enter Try.func12, Try.ntmps12
  go_wp2_with fail
  refine (toIntS_any _ l_values _ (HS_values.out.below HB0.out (Nat.le_refl _)) b_values).mono ?_
  rintro e w1 ⟨v_s_values, rfl, hrw1, hbw1⟩
  have hzw1 : w.heap.size ≤ w1.heap.size := hbw1.size
  have HBw1 : Hid (Below w.heap.size w w1) := Lib.hid (HB0.out.trans (hbw1.mono HB0.out.size))
  have hww1 := HBw1.out.size
  clear hbw1 HB0
  have R_s_values_w1 := Lib.hid hrw1; clear hrw1
  have lt_s_values : Hid (∀ g, v_s_values.ownBlock = some g → w.heap.size ≤ g ∧ g < w1.heap.size) := Lib.hid R_s_values_w1.out.lt
  go_wp2_with fail
  refine (K1.out _ v_s_values R_s_values_w1.out.sl).mono ?_
  rintro e w2 ⟨v_sp, rfl, hrw2, hbw2⟩
  have hzw2 : w1.heap.size ≤ w2.heap.size := hbw2.size
  have R_s_values_w2 := Lib.hid (R_s_values_w1.out.below hbw2)
  clear R_s_values_w1
  have HBw2 : Hid (Below w.heap.size w w2) := Lib.hid (HBw1.out.trans (hbw2.mono HBw1.out.size))
  have hww2 := HBw2.out.size
  clear hbw2 HBw1
  have R_sp_w2 := Lib.hid hrw2; clear hrw2
  have lt_sp : Hid (∀ g, v_sp.ownBlock = some g → w1.heap.size ≤ g ∧ g < w2.heap.size) := Lib.hid R_sp_w2.out.lt
  clear R_s_values_w2 lt_s_values
  go_wp2_with fail
  refine (toIntS_any _ l_values _ (HS_values.out.below HBw2.out (Nat.le_refl _)) b_values).mono ?_
  rintro e w3 ⟨v_x_values, rfl, hrw3, hbw3⟩
  have hzw3 : w2.heap.size ≤ w3.heap.size := hbw3.size
  have R_sp_w3 := Lib.hid (R_sp_w2.out.below hbw3)
  clear R_sp_w2
  have HBw3 : Hid (Below w.heap.size w w3) := Lib.hid (HBw2.out.trans (hbw3.mono HBw2.out.size))
  have hww3 := HBw3.out.size
  clear hbw3 HBw2
  have R_x_values_w3 := Lib.hid hrw3; clear hrw3
  have lt_x_values : Hid (∀ g, v_x_values.ownBlock = some g → w2.heap.size ≤ g ∧ g < w3.heap.size) := Lib.hid R_x_values_w3.out.lt
  go_wp2_with fail
  refine (K2.out _ v_x_values R_x_values_w3.out.sl).mono ?_
  rintro e w4 ⟨v_im, rfl, hrw4, hbw4⟩
  have hzw4 : w3.heap.size ≤ w4.heap.size := hbw4.size
  have R_sp_w4 := Lib.hid (R_sp_w3.out.below hbw4)
  clear R_sp_w3
  have R_x_values_w4 := Lib.hid (R_x_values_w3.out.below hbw4)
  clear R_x_values_w3
  have HBw4 : Hid (Below w.heap.size w w4) := Lib.hid (HBw3.out.trans (hbw4.mono HBw3.out.size))
  have hww4 := HBw4.out.size
  clear hbw4 HBw3
  have R_im_w4 := Lib.hid hrw4; clear hrw4
  have lt_im : Hid (∀ g, v_im.ownBlock = some g → w3.heap.size ≤ g ∧ g < w4.heap.size) := Lib.hid R_im_w4.out.lt
  go_wp2_with fail
  refine (eq_same v_im v_sp r _ _ _ R_im_w4.out R_sp_w4.out (by omega)).mono ?_
  rintro e w5 ⟨rfl, hbw5⟩
  have hzw5 : w4.heap.size ≤ w5.heap.size := hbw5.size
  have R_sp_w5 := Lib.hid (R_sp_w4.out.below hbw5)
  clear R_sp_w4
  have R_x_values_w5 := Lib.hid (R_x_values_w4.out.below hbw5)
  clear R_x_values_w4
  have R_im_w5 := Lib.hid (R_im_w4.out.below hbw5)
  clear R_im_w4
  have HBw5 : Hid (Below w.heap.size w w5) := Lib.hid (HBw4.out.trans (hbw5.mono HBw4.out.size))
  have hww5 := HBw5.out.size
  clear hbw5 HBw4
  go_wp2_with fail
  refine (toIntS_any _ l_values _ (HS_values.out.below HBw5.out (Nat.le_refl _)) b_values).mono ?_
  rintro e w6 ⟨v_y_values, rfl, hrw6, hbw6⟩
  have hzw6 : w5.heap.size ≤ w6.heap.size := hbw6.size
  have R_sp_w6 := Lib.hid (R_sp_w5.out.below hbw6)
  clear R_sp_w5
  have R_x_values_w6 := Lib.hid (R_x_values_w5.out.below hbw6)
  clear R_x_values_w5
  have R_im_w6 := Lib.hid (R_im_w5.out.below hbw6)
  clear R_im_w5
  have HBw6 : Hid (Below w.heap.size w w6) := Lib.hid (HBw5.out.trans (hbw6.mono HBw5.out.size))
  have hww6 := HBw6.out.size
  clear hbw6 HBw5
  have R_y_values_w6 := Lib.hid hrw6; clear hrw6
  have lt_y_values : Hid (∀ g, v_y_values.ownBlock = some g → w5.heap.size ≤ g ∧ g < w6.heap.size) := Lib.hid R_y_values_w6.out.lt
  go_wp2_with fail
  refine (eq_same v_x_values v_y_values l_values _ _ _ R_x_values_w6.out R_y_values_w6.out (by omega)).mono ?_
  rintro e w7 ⟨rfl, hbw7⟩
  have hzw7 : w6.heap.size ≤ w7.heap.size := hbw7.size
  have R_sp_w7 := Lib.hid (R_sp_w6.out.below hbw7)
  clear R_sp_w6
  have R_x_values_w7 := Lib.hid (R_x_values_w6.out.below hbw7)
  clear R_x_values_w6
  have R_im_w7 := Lib.hid (R_im_w6.out.below hbw7)
  clear R_im_w6
  have R_y_values_w7 := Lib.hid (R_y_values_w6.out.below hbw7)
  clear R_y_values_w6
  have HBw7 : Hid (Below w.heap.size w w7) := Lib.hid (HBw6.out.trans (hbw7.mono HBw6.out.size))
  have hww7 := HBw7.out.size
  clear hbw7 HBw6
  clear R_y_values_w7 lt_y_values
  go_wp2_with fail
  refine (mark_any v_x_values l_values _ (1) _ R_x_values_w7.out (by omega) (by omega) (by omega)).mono ?_
  rintro e w8 ⟨rfl, hrw8, hgw8⟩
  have hzw8 : w7.heap.size ≤ w8.heap.size := hgw8.size
  have R_sp_w8 := Lib.hid (R_sp_w7.out.keep (w' := w8) fun g hg => hgw8.block g (R_sp_w7.out.lt g hg).2 fun e => by have h1 := lt_sp.out g hg; have h2 := lt_x_values.out g e.symm; omega)
  clear R_sp_w7
  have R_im_w8 := Lib.hid (R_im_w7.out.keep (w' := w8) fun g hg => hgw8.block g (R_im_w7.out.lt g hg).2 fun e => by have h1 := lt_im.out g hg; have h2 := lt_x_values.out g e.symm; omega)
  clear R_im_w7
  have HBw8 : Hid (Below w.heap.size w w8) := Lib.hid (Below.grown HBw7.out hgw8 (by omega) (fun g e => by have h2 := lt_x_values.out g e; omega))
  have hww8 := HBw8.out.size
  have R_x_values_w8 := Lib.hid hrw8
  clear hrw8 hgw8 HBw7 R_x_values_w7
  clear R_x_values_w8 lt_x_values
  have hpos : ¬ (1 + (l_values.length : Int)) < (0 : Int) := by omega
  go_wp2_with fail
  refine (eq_same v_im v_sp r _ _ _ R_im_w8.out R_sp_w8.out (by omega)).mono ?_
  rintro e w9 ⟨rfl, hbw9⟩
  have hzw9 : w8.heap.size ≤ w9.heap.size := hbw9.size
  have R_sp_w9 := Lib.hid (R_sp_w8.out.below hbw9)
  clear R_sp_w8
  have R_im_w9 := Lib.hid (R_im_w8.out.below hbw9)
  clear R_im_w8
  have HBw9 : Hid (Below w.heap.size w w9) := Lib.hid (HBw8.out.trans (hbw9.mono HBw8.out.size))
  have hww9 := HBw9.out.size
  clear hbw9 HBw8
  go_wp2_with fail
  refine (mark_any v_im r _ (1) _ R_im_w9.out (by omega) (by omega) (by omega)).mono ?_
  rintro e w10 ⟨rfl, hrw10, hgw10⟩
  have hzw10 : w9.heap.size ≤ w10.heap.size := hgw10.size
  have R_sp_w10 := Lib.hid (R_sp_w9.out.keep (w' := w10) fun g hg => hgw10.block g (R_sp_w9.out.lt g hg).2 fun e => by have h1 := lt_sp.out g hg; have h2 := lt_im.out g e.symm; omega)
  clear R_sp_w9
  have HBw10 : Hid (Below w.heap.size w w10) := Lib.hid (Below.grown HBw9.out hgw10 (by omega) (fun g e => by have h2 := lt_im.out g e; omega))
  have hww10 := HBw10.out.size
  have R_im_w10 := Lib.hid hrw10
  clear hrw10 hgw10 HBw9 R_im_w9
  go_wp2_with fail
  refine (held_any v_im r.length _ (1) _ R_im_w10.out (by omega) (by omega) (by omega)).mono ?_
  rintro e wx1 ⟨rfl, rfl⟩
  go_wp2_with fail
  refine (toIntS_any _ l_values _ (HS_values.out.below HBw10.out (Nat.le_refl _)) b_values).mono ?_
  rintro e w11 ⟨v_t_values, rfl, hrw11, hbw11⟩
  have hzw11 : w10.heap.size ≤ w11.heap.size := hbw11.size
  have R_sp_w11 := Lib.hid (R_sp_w10.out.below hbw11)
  clear R_sp_w10
  have R_im_w11 := Lib.hid (R_im_w10.out.below hbw11)
  clear R_im_w10
  have HBw11 : Hid (Below w.heap.size w w11) := Lib.hid (HBw10.out.trans (hbw11.mono HBw10.out.size))
  have hww11 := HBw11.out.size
  clear hbw11 HBw10
  have R_t_values_w11 := Lib.hid hrw11; clear hrw11
  have lt_t_values : Hid (∀ g, v_t_values.ownBlock = some g → w10.heap.size ≤ g ∧ g < w11.heap.size) := Lib.hid R_t_values_w11.out.lt
  go_wp2_with fail
  refine (K2.out _ v_t_values R_t_values_w11.out.sl).mono ?_
  rintro e w12 ⟨v_im2, rfl, hrw12, hbw12⟩
  have hzw12 : w11.heap.size ≤ w12.heap.size := hbw12.size
  have R_sp_w12 := Lib.hid (R_sp_w11.out.below hbw12)
  clear R_sp_w11
  have R_im_w12 := Lib.hid (R_im_w11.out.below hbw12)
  clear R_im_w11
  have R_t_values_w12 := Lib.hid (R_t_values_w11.out.below hbw12)
  clear R_t_values_w11
  have HBw12 : Hid (Below w.heap.size w w12) := Lib.hid (HBw11.out.trans (hbw12.mono HBw11.out.size))
  have hww12 := HBw12.out.size
  clear hbw12 HBw11
  have R_im2_w12 := Lib.hid hrw12; clear hrw12
  have lt_im2 : Hid (∀ g, v_im2.ownBlock = some g → w11.heap.size ≤ g ∧ g < w12.heap.size) := Lib.hid R_im2_w12.out.lt
  clear R_t_values_w12 lt_t_values
  go_wp2_with fail
  refine (eq_same v_im2 v_sp r _ _ _ R_im2_w12.out R_sp_w12.out (by omega)).mono ?_
  rintro e w13 ⟨rfl, hbw13⟩
  have hzw13 : w12.heap.size ≤ w13.heap.size := hbw13.size
  have R_sp_w13 := Lib.hid (R_sp_w12.out.below hbw13)
  clear R_sp_w12
  have R_im_w13 := Lib.hid (R_im_w12.out.below hbw13)
  clear R_im_w12
  have R_im2_w13 := Lib.hid (R_im2_w12.out.below hbw13)
  clear R_im2_w12
  have HBw13 : Hid (Below w.heap.size w w13) := Lib.hid (HBw12.out.trans (hbw13.mono HBw12.out.size))
  have hww13 := HBw13.out.size
  clear hbw13 HBw12
  go_wp2_with fail
  refine (held_any v_im r.length _ (1) _ R_im_w13.out (by omega) (by omega) (by omega)).mono ?_
  rintro e wx2 ⟨rfl, rfl⟩
  go_wp2
  go_ret
  exact ⟨rfl, HBw13.out⟩
end Go.Proofs.Ytnmdcmbcackchaa
