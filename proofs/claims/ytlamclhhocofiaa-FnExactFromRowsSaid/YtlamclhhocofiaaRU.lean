/- impl.field.elementWithDigits, and impl.mapped at it, by contracts. -/
import Derived.Test.YtlamclhhocofiaaRR
import Derived.Laws.CopyOwn
namespace Go.Proofs.Ytlamclhhocofiaa
open Go.RowKit
/-- The cells of an element. -/
def ecs (q a : Int) : List Value := [.int .i64 q, .int .i64 (pr q), .int .i64 (pl q), .int .i64 (dg q a 0), .int .i64 (dg q a 1), .int .i64 (dg q a 2), .int .i64 (dg q a 3)]
theorem digs_zero (p : Int) : ∀ k i : Nat, (digs k p 0).getD i 0 = 0 := by
  intro k
  induction k with
  | zero => intro i; rfl
  | succ k ih =>
    intro i
    have e : digs (k + 1) p 0 = 0 :: digs k p 0 := by
      show (0 : Int) % p :: digs k p (0 / p) = _
      rw [Int.zero_emod, Int.zero_ediv]
    rw [e]
    cases i with
    | zero => rfl
    | succ i => exact ih i
theorem dg_zero (q : Int) (i : Nat) : dg q 0 i = 0 := digs_zero _ _ _
theorem splice_dg {q : Int} {l : List Int} (h : isSz q = true) (hl : l.length = plN q) (ha : l.all (inF (pr q)) = true) : splice (ecs q 0) 3 (l.map (Value.int .i64)) = ecs q (frm (pr q) l) := by
  have hk := plN_bd q h
  unfold ecs
  rw [dg_frm h hl ha 0, dg_frm h hl ha 1, dg_frm h hl ha 2, dg_frm h hl ha 3, dg_zero, dg_zero, dg_zero, dg_zero]
  clear ha h
  rcases l with _ | ⟨a, _ | ⟨b, _ | ⟨c, _ | ⟨d, _ | ⟨e, l⟩⟩⟩⟩⟩
  · simp at hl; omega
  · simp [splice]
  · simp [splice]
  · simp [splice]
  · simp [splice]
  · simp at hl; omega
set_option maxRecDepth 100000 in
set_option maxHeartbeats 4000000 in
/-- impl.field.elementWithDigits. -/
theorem withDigitsE (q : Int) (v : Value) (l : List Int) (w : World) (h : isSz q = true) (hv : Sl w v l) (hl : l.length = plN q) (ha : l.all (inF (pr q)) = true) :
    Calls Try.prog 109 #[fdE q, v] w fun e w' => e = .returned (elE q (frm (pr q) l)) ∧ Below w.heap.size w w' := by
  obtain ⟨i0, hi, iz0, iz1, iz2⟩ := info_parts Try.infoI
  have hkb := plN_bd q h
  have hsz : (Try.prog.info? 3).map (fun i => i.size) = some 1 := by rw [hi]; simp [iz1]
  have HZ := Lib.hid (fun w => zeroE q w h)
  have HSP := Lib.hid (splice_dg h hl ha)
  obtain ⟨b, off, cap, rfl, hb, hc⟩ := hv.open rfl (by omega)
  have HSRC : Hid (∀ w', Below w.heap.size w w' → ∀ j v, (l.map (Value.int .i64))[j]? = some v → w'.cell? ((⟨b, off, none⟩ : Addr).add j) = some v) := Lib.hid fun w' hbw j v hj => by
    rw [List.getElem?_map] at hj
    obtain ⟨x, hx, rfl⟩ := Option.map_eq_some_iff.1 hj
    have hjn : j < l.length := (List.getElem?_eq_some_iff.1 hx).1
    rw [add_off, hbw.cell (p := ⟨b, off + j, none⟩) hb, hc j hjn]
    simp [List.getD, hx]
  have HLN : Hid ((l.map (Value.int .i64)).length = l.length) := Lib.hid (by simp)
  have HONE : Hid (∀ v ∈ l.map (Value.int .i64), v.oneCell' = true) := Lib.hid (by
    intro u hu
    obtain ⟨x, _, rfl⟩ := List.mem_map.1 hu
    rfl)
  rw [hl] at HLN
  rw [hl]
  clear hv hc h ha hl
  generalize l.map (Value.int .i64) = cs at *
  generalize frm (pr q) l = x at *
  generalize plN q = k at *
  go_enter Try.func109, Try.ntmps109
  go_wp2_with fail
  refine (HZ.out _).mono ?_
  rintro e w1 ⟨rfl, hb1⟩
  have hz_hb1 := hb1.size; (try simp at hz_hb1)
  have HB1 := Lib.hid hb1; clear hb1
  have HCUR : Hid ((w1.alloc (eblk q 0)).heap[w1.heap.size]? = some (.cells (ecs q 0).toArray 65 (0, 0))) := Lib.hid (heap_alloc_new w1 _)
  go_wp2_with (with_reducible refine wpList_copy_splice rfl _ _ 22 22 rfl 3 Try.underlying22 hsz _ _ _ _ _ _ rfl rfl w1.heap.size 3 _ 65 HCUR.out cs ?d0 ?d1 ?d2 HONE.out w1.heap.size w1 ((Below.refl _ _).alloc (Nat.le_refl _) _) (Nat.le_refl _) ?_)
  case d0 => rw [HLN.out]; exact (Nat.min_eq_left (by omega)).symm
  case d1 =>
    intro _ j u hu
    have := HSRC.out (w1.alloc (eblk q 0)) (by have hb1 := HB1.out; (repeat' (first | (with_reducible assumption) | (with_reducible exact Below.refl _ _) | (with_reducible refine below_drewN ?_ _) | (with_reducible refine Below.drew ?_) | (with_reducible refine Below.alloc ?_ ?_ _) | (with_reducible refine Below.setCell ?_ ?_ _) | (with_reducible refine Below.trans ?_ (Below.mono (by assumption) ?_)) | (with_reducible exact Nat.le_refl _) | (with_reducible assumption) | omega | (simp; omega) | (simp; done)))) j u hu
    rwa [add_off] at this
  case d2 => rw [HLN.out]; show 3 + k ≤ 7; omega
  intro w2 HG2 hb2
  have hgl2 : w1.heap.size < w2.heap.size := (Array.getElem?_eq_some_iff.1 HG2.out).1
  have hg2 : w2.heap[w1.heap.size]? = some (eblk q x) := by
    have := HG2.out
    rw [HSP.out] at this
    exact this
  obtain ⟨x0, x1, x2, x3, x4, x5, x6, xf, xl⟩ := seven hg2
  have hbr : Below (w.heap.size + 2) ((w.alloc (ffblk q)).alloc zeroblk) w2 := by have hb1 := HB1.out; (repeat' (first | (with_reducible assumption) | (with_reducible exact Below.refl _ _) | (with_reducible refine below_drewN ?_ _) | (with_reducible refine Below.drew ?_) | (with_reducible refine Below.alloc ?_ ?_ _) | (with_reducible refine Below.setCell ?_ ?_ _) | (with_reducible refine Below.trans ?_ (Below.mono (by assumption) ?_)) | (with_reducible exact Nat.le_refl _) | (with_reducible assumption) | omega | (simp; omega) | (simp; done)))
  have hr : w2.heap[w.heap.size + 1]? = some zeroblk := (hbr.block _ (by omega)).trans (two w (ffblk q) zeroblk).2
  have HB2 : Hid (Below w.heap.size w w2) := Lib.hid (by have hb1 := HB1.out; (repeat' (first | (with_reducible assumption) | (with_reducible exact Below.refl _ _) | (with_reducible refine below_drewN ?_ _) | (with_reducible refine Below.drew ?_) | (with_reducible refine Below.alloc ?_ ?_ _) | (with_reducible refine Below.setCell ?_ ?_ _) | (with_reducible refine Below.trans ?_ (Below.mono (by assumption) ?_)) | (with_reducible exact Nat.le_refl _) | (with_reducible assumption) | omega | (simp; omega) | (simp; done))))
  clear hg2 HG2 hbr hb2 HSP HSRC HONE HLN HCUR
  obtain ⟨r0, r1, r2, r3, r4, r5, r6, rf, rl⟩ := seven hr
  go_wp2_with fail
  have hb2 := HB2.out
  refine bodyPost_ret (v := elE q x) (by simp [results, Try.results109, go_sem, r0, r1, r2, r3, r4, r5, r6]) rfl ⟨rfl, ?_⟩
  (repeat' (first | (with_reducible assumption) | (with_reducible exact Below.refl _ _) | (with_reducible refine below_drewN ?_ _) | (with_reducible refine Below.drew ?_) | (with_reducible refine Below.alloc ?_ ?_ _) | (with_reducible refine Below.setCell ?_ ?_ _) | (with_reducible refine Below.trans ?_ (Below.mono (by assumption) ?_)) | (with_reducible exact Nat.le_refl _) | (with_reducible assumption) | omega | (simp; omega) | (simp; done)))
set_option maxHeartbeats 1000000 in
/-- impl.listOf at impl.mapped[[]int,impl.element]$1. -/
theorem listOf_RE (q : Int) (n : Nat) (f : Nat → Int) (A0 A1 : Nat) (w : World) (hn : n ≤ 1000) (HX : ∀ (i : Nat) w', i < n → Below w.heap.size w w' → Calls Try.prog 137 #[.int .i64 i, .pointer (some ⟨A0, 0, none⟩), .pointer (some ⟨A1, 0, none⟩)] w' fun e w'' => e = .returned (elE q (f i)) ∧ Below w'.heap.size w' w'') :
    Calls Try.prog 93 #[.int .i64 n, .func (.func 137) #[] #[.pointer (some ⟨A0, 0, none⟩), .pointer (some ⟨A1, 0, none⟩)]] w fun e w' => e = .returned (.slice (some ⟨w.heap.size, 0, none⟩) n n) ∧ Blk w' w.heap.size n ∧ Els w' w.heap.size q f n ∧ Below w.heap.size w w' := by
  obtain ⟨i0, hi, iz0, iz1, iz2⟩ := info_parts Try.infoE
  have HXX := Lib.hid HX; clear HX
  go_enter Try.func93, Try.ntmps93
  go_wp2_with (at_make; go_must (refine wpList_make_full _ rfl _ _ 46 rfl w.heap.size 65 i0 (.agg #[.int .i64 0, .int .i64 0, .int .i64 0, .int .i64 0, .int .i64 0, .int .i64 0, .int .i64 0]) 7 Try.underlying46 hi iz0 iz1 .i64 .i64 _ _ n rfl rfl rfl rfl ?c3 ?c4 ?c5 ?_))
  case c3 => rw [iz2]; omega
  case c4 => unfold maxLen; omega
  case c5 => simp
  intro w1 hown hgrow
  have hblk : Blk w1 w.heap.size n := by
    rcases hown.2 with ⟨hx, _⟩ | ⟨g, cap, cur, hx, _, hh, _, _, hsz, _⟩
    · simp at hx
    · simp at hx
      obtain ⟨rfl, rfl⟩ := hx
      exact ⟨cur, hh, hsz⟩
  have hb : Below w.heap.size w w1 := (Below.refl _ _).grown hgrow (Nat.le_refl _) (fun k hk => by cases hk)
  have HB1 := Lib.hid hblk
  have HW1 := Lib.hid hb
  clear hown hgrow hblk hb
  go_wp2_with fail
  go_loopw [11] (fun vi wr => ∃ i : Nat, i ≤ n ∧ vi = .int .i64 i ∧ Blk wr w.heap.size n ∧ Els wr w.heap.size q f i ∧ Below w.heap.size w wr) (fun vi _ => n - (intOf vi).toNat)
  case atStart => exact ⟨0, Nat.zero_le _, rfl, HB1.out, fun j hj => by omega, HW1.out⟩
  case round =>
    obtain ⟨i, hi, rfl, hk, he, hb⟩ := hrel
    have HK := Lib.hid hk; clear hk
    have HEl := Lib.hid he; clear he
    have HB := Lib.hid hb; clear hb
    by_cases hlt : i < n
    · have HX' := Lib.hid (HXX.out i _ hlt HB.out)
      have hlt1 := HK.out.lt
      go_wp2_with fail
      refine HX'.out.mono ?_
      rintro e w2 ⟨rfl, hb2⟩
      have hk2 : Blk w2 w.heap.size n := HK.out.below hb2 hlt1
      have he2 : Els w2 w.heap.size q f i := HEl.out.below hb2 hlt1
      have HB2 := Lib.hid (HB.out.trans (hb2.mono HB.out.size))
      clear hb2
      obtain ⟨x0, c0⟩ := hk2.at (i * 7) (by omega)
      obtain ⟨x1, c1⟩ := hk2.at (i * 7 + 1) (by omega)
      obtain ⟨x2, c2⟩ := hk2.at (i * 7 + 2) (by omega)
      obtain ⟨x3, c3⟩ := hk2.at (i * 7 + 3) (by omega)
      obtain ⟨x4, c4⟩ := hk2.at (i * 7 + 4) (by omega)
      obtain ⟨x5, c5⟩ := hk2.at (i * 7 + 5) (by omega)
      obtain ⟨x6, c6⟩ := hk2.at (i * 7 + 6) (by omega)
      have fr := hk2.free
      have HST := Lib.hid (Els.step (f := f) hk2 hlt he2)
      clear hk2 he2
      generalize f i = x at *
      go_wp2
      go_roundw
      case rel => exact ⟨i + 1, by omega, by go_num, HST.out.2, HST.out.1, put7i_below HB2.out _ (Nat.le_refl _) _ _ _⟩
      case measure => simp [intOf]; omega
    · obtain rfl : n = i := by omega
      go_wp2
      go_ret
      exact ⟨rfl, HK.out, HEl.out, HB.out⟩
set_option maxHeartbeats 1000000 in
/-- The closure of impl.mapped over slices, at impl.field.elementWithDigits. -/
theorem cloRE (q y : Int) (a : Option Addr) (lf cf i n b cap A0 A1 : Nat) (w : World) (hin : i < n)
    (HE0 : ∀ w', Below w.heap.size w w' → Calls Try.prog 109 #[fdE q, .slice a lf cf] w' fun e w'' => e = .returned (elE q y) ∧ Below w'.heap.size w' w'')
    (c0 : w.cell? ⟨A0, 0, none⟩ = some (.func (.func 109) #[fdE q] #[])) (c1 : w.cell? ⟨A1, 0, none⟩ = some (.slice (some ⟨b, 0, none⟩) n cap)) (c2 : w.cell? ⟨b, i, none⟩ = some (.slice a lf cf)) :
    Calls Try.prog 137 #[.int .i64 i, .pointer (some ⟨A0, 0, none⟩), .pointer (some ⟨A1, 0, none⟩)] w fun e w' => e = .returned (elE q y) ∧ Below w.heap.size w w' := by
  have HE := Lib.hid HE0; clear HE0
  have l0 := World.block_lt_of_cell? w _ c0
  have l1 := World.block_lt_of_cell? w _ c1
  have l2 := World.block_lt_of_cell? w _ c2
  simp only at l0 l1 l2
  go_enter Try.func137, Try.ntmps137
  go_wp2_with fail
  go_region_with (go_at_call 109; refine (HE.out _ (by (repeat' (first | (with_reducible assumption) | (with_reducible exact Below.refl _ _) | (with_reducible refine below_drewN ?_ _) | (with_reducible refine Below.drew ?_) | (with_reducible refine Below.alloc ?_ ?_ _) | (with_reducible refine Below.setCell ?_ ?_ _) | (with_reducible refine Below.trans ?_ (Below.mono (by assumption) ?_)) | (with_reducible exact Nat.le_refl _) | (with_reducible assumption) | omega | (simp; omega) | (simp; done))))).mono ?_; rintro e w1 ⟨rfl, hb1⟩; obtain ⟨hc1, hf1⟩ := bcell hb1; (try simp only [World.size_drew] at hc1 hf1); have hz1 := hb1.size; (try simp at hz1); have HB1 := Lib.hid hb1; clear hb1; have l3 : w.heap.size < w1.heap.size := (by omega))
  all_goals
    go_wp2_with fail
    have hb1 := HB1.out
    have q0 : w1.heap[w.heap.size]? = some zeroblk := (hb1.block _ (by simp)).trans (heap_alloc_new w _)
    obtain ⟨s0, s1, s2, s3, s4, s5, s6, sf, sl⟩ := seven q0
    clear q0
    refine bodyPost_ret (v := elE q y) (by simp [results, Try.results137, go_sem, s0, s1, s2, s3, s4, s5, s6]) rfl ⟨rfl, ?_⟩
    (repeat' (first | (with_reducible assumption) | (with_reducible exact Below.refl _ _) | (with_reducible refine below_drewN ?_ _) | (with_reducible refine Below.drew ?_) | (with_reducible refine Below.alloc ?_ ?_ _) | (with_reducible refine Below.setCell ?_ ?_ _) | (with_reducible refine Below.trans ?_ (Below.mono (by assumption) ?_)) | (with_reducible exact Nat.le_refl _) | (with_reducible assumption) | omega | (simp; omega) | (simp; done)))
set_option maxHeartbeats 2000000 in
/-- impl.mapped over rows, at impl.field.elementWithDigits. -/
theorem mappedRE (q : Int) (n B : Nat) (v : Value) (F : Nat → List Int) (X : Nat → Value) (w : World) (h : isSz q = true) (hv : RS w B v n F X) (hr : rws q n F = true) :
    Calls Try.prog 108 #[v, .func (.func 109) #[fdE q] #[]] w fun e w' => ∃ g, e = .returned (.slice (some ⟨g, 0, none⟩) n n) ∧ w.heap.size ≤ g ∧ Blk w' g n ∧ Els w' g q (fun i => frm (pr q) (F i)) n ∧ Below w.heap.size w w' := by
  obtain ⟨hnk, hF⟩ := rws_parts hr
  have hkb := plN_bd q h
  obtain ⟨b, cap, rfl, _, hbl, hc⟩ := hv.form (by omega)
  have HX : Hid (∀ (T1 T2 : TypeId) (i : Nat) w', i < n → Below ((w.alloc (lblk T1 (.slice (some ⟨b, 0, none⟩) n cap))).alloc (lblk T2 (.func (.func 109) #[fdE q] #[]))).heap.size ((w.alloc (lblk T1 (.slice (some ⟨b, 0, none⟩) n cap))).alloc (lblk T2 (.func (.func 109) #[fdE q] #[]))) w' →
      Calls Try.prog 137 #[.int .i64 i, .pointer (some ⟨w.heap.size + 1, 0, none⟩), .pointer (some ⟨w.heap.size, 0, none⟩)] w' fun e w'' => e = .returned (elE q ((fun i => frm (pr q) (F i)) i)) ∧ Below w'.heap.size w' w'') := Lib.hid fun T1 T2 i w' hi hb => by
    have hbw : Below w.heap.size w w' := by (repeat' (first | (with_reducible assumption) | (with_reducible exact Below.refl _ _) | (with_reducible refine below_drewN ?_ _) | (with_reducible refine Below.drew ?_) | (with_reducible refine Below.alloc ?_ ?_ _) | (with_reducible refine Below.setCell ?_ ?_ _) | (with_reducible refine Below.trans ?_ (Below.mono (by assumption) ?_)) | (with_reducible exact Nat.le_refl _) | (with_reducible assumption) | omega | (simp; omega) | (simp; done)))
    have hsl := (hv.inner i hi).sl
    obtain ⟨ax, cx, ex⟩ := hsl.form
    rw [ex] at hsl
    refine cloRE q _ ax (F i).length cx i n b cap _ _ w' hi (fun w'' hb'' => withDigitsE q _ (F i) w'' h (hsl.below (hbw.trans (hb''.mono hbw.size)) (Nat.le_refl _)) (hF i hi).1 (hF i hi).2) (at_box (T := T2) ?_) (at_box (T := T1) ?_) ((hbw.cell (p := ⟨b, i, none⟩) hbl).trans (by rw [← ex]; exact hc i hi))
    · rw [hb.block _ (by simp)]
      have := heap_alloc_new (w.alloc (lblk T1 (.slice (some ⟨b, 0, none⟩) n cap))) (lblk T2 (.func (.func 109) #[fdE q] #[]))
      simpa using this
    · rw [hb.block _ (by simp; omega), Below.heap_alloc _ _ _ (by simp)]
      exact heap_alloc_new w _
  rw [← hnk] at hkb
  clear hv hr h hF hc hnk
  generalize (fun i => frm (pr q) (F i)) = f at *
  go_enter Try.func108, Try.ntmps108
  go_wp2_with fail
  refine (listOf_RE q n f (w.heap.size + 1) w.heap.size _ (by omega) (HX.out _ _)).mono ?_
  rintro e w1 ⟨rfl, hk1, he1, hb1⟩
  have HK := Lib.hid hk1; clear hk1
  have HE := Lib.hid he1; clear he1
  have HB1 := Lib.hid hb1; clear hb1
  go_wp2
  go_ret
  have hb1 := HB1.out
  exact ⟨_, rfl, by omega, by simpa using HK.out, by simpa using HE.out, by (repeat' (first | (with_reducible assumption) | (with_reducible exact Below.refl _ _) | (with_reducible refine below_drewN ?_ _) | (with_reducible refine Below.drew ?_) | (with_reducible refine Below.alloc ?_ ?_ _) | (with_reducible refine Below.setCell ?_ ?_ _) | (with_reducible refine Below.trans ?_ (Below.mono (by assumption) ?_)) | (with_reducible exact Nat.le_refl _) | (with_reducible assumption) | omega | (simp; omega) | (simp; done)))⟩
end Go.Proofs.Ytlamclhhocofiaa
