/- Slices of strings that the call itself makes; impl.mapped over numbers at strconv.Itoa, by contracts. -/
import Derived.Test.YthklnfanbegecacDoorJB
import Derived.Test.YthklnfanbegecacDoorHJ
import Derived.Deep.RegionHeld3
namespace Go.Proofs.YthklnfanbegecacDoor
open Go.RowKit
theorem Tryd.infoS : (Tryd.prog.info? 9).map (fun i => (i.zero, i.size, i.bytes)) = some (some (.string ⟨#[]⟩), 1, 16) := by kernel_rfl
/-- The first m strings of a slice. -/
def Strs (w : World) (g : Nat) (f : Nat → ByteArray) (m : Nat) : Prop := ∀ j, j < m → w.cell? ⟨g, j, none⟩ = some (.string (f j))
/-- The block of a slice of n strings. -/
def SBlk (w : World) (g n : Nat) : Prop := ∃ cur, w.heap[g]? = some (.cells cur 9 (0, 0)) ∧ cur.size = n
theorem SBlk.lt {w : World} {g n : Nat} (h : SBlk w g n) : g < w.heap.size := by
  obtain ⟨cur, hc, _⟩ := h
  exact (Array.getElem?_eq_some_iff.1 hc).1
theorem SBlk.at {w : World} {g n : Nat} (h : SBlk w g n) (o : Nat) (ho : o < n) : ∃ v, w.cell? ⟨g, o, none⟩ = some v := by
  obtain ⟨cur, hc, hs⟩ := h
  rw [cell_of_row w g o _ _ (0, 0) hc, Array.getElem?_eq_getElem (by omega)]
  exact ⟨_, rfl⟩
theorem SBlk.free {w : World} {g n : Nat} (h : SBlk w g n) (o : Nat) : w.frozen? ⟨g, o, none⟩ = false := by
  obtain ⟨cur, hc, _⟩ := h
  exact frozen_of_row w g o _ _ hc
theorem SBlk.below {w w' : World} {g n B : Nat} (h : SBlk w g n) (hb : Below B w w') (hg : g < B) : SBlk w' g n := by
  obtain ⟨cur, hc, hs⟩ := h
  exact ⟨cur, (hb.block _ hg).trans hc, hs⟩
theorem Strs.below {w w' : World} {g m B : Nat} {f : Nat → ByteArray} (h : Strs w g f m) (hb : Below B w w') (hg : g < B) : Strs w' g f m := fun j hj => (hb.cell (p := ⟨g, j, none⟩) hg).trans (h j hj)
theorem Strs.step {w : World} {g n i : Nat} {f : Nat → ByteArray} (hk : SBlk w g n) (hi : i < n) (he : Strs w g f i) : Strs (w.setCell ⟨g, i, none⟩ (.string (f i))) g f (i + 1) ∧ SBlk (w.setCell ⟨g, i, none⟩ (.string (f i))) g n := by
  obtain ⟨cur, hc, hs⟩ := hk
  have hh := heap_setCell_same w g i _ _ (.string (f i)) hc
  refine ⟨fun j hj => ?_, ⟨_, hh, by simpa using hs⟩⟩
  rw [cell_of_row _ g _ _ _ (0, 0) hh]
  by_cases e : j = i
  · subst e
    simp [hs, hi]
  · have := he j (by omega)
    rw [cell_of_row _ g _ _ _ (0, 0) hc] at this
    rw [Array.getElem?_setIfInBounds_ne (by omega)]
    exact this
set_option maxHeartbeats 1000000 in
/-- impl.listOf at impl.mapped[int,string]$1. -/
theorem listOf_IS (n : Nat) (f : Nat → ByteArray) (A0 A1 : Nat) (w : World) (hn : n ≤ 1000) (HX : ∀ (i : Nat) w', i < n → Below w.heap.size w w' → Calls Tryd.prog 37 #[.int .i64 i, .pointer (some ⟨A0, 0, none⟩), .pointer (some ⟨A1, 0, none⟩)] w' fun e w'' => e = .returned (.string (f i)) ∧ Below w'.heap.size w' w'') :
    Calls Tryd.prog 36 #[.int .i64 n, .func (.func 37) #[] #[.pointer (some ⟨A0, 0, none⟩), .pointer (some ⟨A1, 0, none⟩)]] w fun e w' => e = .returned (.slice (some ⟨w.heap.size, 0, none⟩) n n) ∧ SBlk w' w.heap.size n ∧ Strs w' w.heap.size f n ∧ Below w.heap.size w w' := by
  obtain ⟨i0, hi, iz0, iz1, iz2⟩ := info_parts Tryd.infoS
  have HXX := Lib.hid HX; clear HX
  go_enter Tryd.func36, Tryd.ntmps36
  go_wp2_with (at_make; go_must (refine wpList_make_full _ rfl _ _ 36 rfl w.heap.size 9 i0 (.string ⟨#[]⟩) 1 Tryd.underlying36 hi iz0 iz1 .i64 .i64 _ _ n rfl rfl rfl rfl ?c3 ?c4 ?c5 ?_))
  case c3 => rw [iz2]; omega
  case c4 => unfold maxLen; omega
  case c5 => simp
  intro w1 hown hgrow
  have hblk : SBlk w1 w.heap.size n := by
    rcases hown.2 with ⟨hx, _⟩ | ⟨g, cap, cur, hx, _, hh, _, _, hsz, _⟩
    · simp at hx
    · simp at hx
      obtain ⟨rfl, rfl⟩ := hx
      exact ⟨cur, hh, by simpa using hsz⟩
  have hb : Below w.heap.size w w1 := (Below.refl _ _).grown hgrow (Nat.le_refl _) (fun k hk => by cases hk)
  have HB1 := Lib.hid hblk
  have HW1 := Lib.hid hb
  clear hown hgrow hblk hb
  go_wp2_with fail
  go_loopw [11] (fun vi wr => ∃ i : Nat, i ≤ n ∧ vi = .int .i64 i ∧ SBlk wr w.heap.size n ∧ Strs wr w.heap.size f i ∧ Below w.heap.size w wr) (fun vi _ => n - (intOf vi).toNat)
  case atStart => exact ⟨0, Nat.zero_le _, rfl, HB1.out, fun j hj => by omega, HW1.out⟩
  case round =>
    obtain ⟨i, hi, rfl, hk, he, hb⟩ := hrel
    have HK := Lib.hid hk; clear hk
    have HEl := Lib.hid he; clear he
    have HB := Lib.hid hb; clear hb
    by_cases hlt : i < n
    · have HX' := Lib.hid (HXX.out i _ hlt HB.out)
      have hlt1 := HK.out.lt
      go_wp2_with fail
      refine HX'.out.mono ?_
      rintro e w2 ⟨rfl, hb2⟩
      have hk2 : SBlk w2 w.heap.size n := HK.out.below hb2 hlt1
      have he2 : Strs w2 w.heap.size f i := HEl.out.below hb2 hlt1
      have HB2 := Lib.hid (HB.out.trans (hb2.mono HB.out.size))
      clear hb2
      obtain ⟨x0, c0⟩ := hk2.at i hlt
      have fr := hk2.free i
      have HST := Lib.hid (Strs.step (f := f) hk2 hlt he2)
      clear hk2 he2
      generalize f i = x at *
      go_wp2
      go_roundw
      case rel => exact ⟨i + 1, by omega, by go_num, HST.out.2, HST.out.1, HB2.out.setCell (Nat.le_refl _) _⟩
      case measure => simp [intOf]; omega
    · obtain rfl : n = i := by omega
      go_wp2
      go_ret
      exact ⟨rfl, HK.out, HEl.out, HB.out⟩
set_option maxHeartbeats 2000000 in
/-- The closure of impl.mapped over numbers, at strconv.Itoa. -/
theorem cloIS (x : Int) (y : ByteArray) (i n b off cap A0 A1 : Nat) (w : World) (hin : i < n)
    (HX : ∀ w', Calls Tryd.prog 24 #[.int .i64 x] w' fun e w'' => e = .returned (.string y) ∧ Below w'.heap.size w' w'')
    (c0 : w.cell? ⟨A0, 0, none⟩ = some (.func (.func 24) #[] #[])) (c1 : w.cell? ⟨A1, 0, none⟩ = some (.slice (some ⟨b, off, none⟩) n cap)) (c2 : w.cell? ⟨b, off + i, none⟩ = some (.int .i64 x)) :
    Calls Tryd.prog 37 #[.int .i64 i, .pointer (some ⟨A0, 0, none⟩), .pointer (some ⟨A1, 0, none⟩)] w fun e w' => e = .returned (.string y) ∧ Below w.heap.size w w' := by
  have HXX := Lib.hid HX; clear HX
  have l0 := World.block_lt_of_cell? w _ c0
  have l1 := World.block_lt_of_cell? w _ c1
  have l2 := World.block_lt_of_cell? w _ c2
  simp only at l0 l1 l2
  have HKEEP : Hid (∀ w', Below w.heap.size w w' → w'.cell? ⟨A0, 0, none⟩ = some (.func (.func 24) #[] #[]) ∧ w'.cell? ⟨A1, 0, none⟩ = some (.slice (some ⟨b, off, none⟩) n cap) ∧ w'.cell? ⟨b, off + i, none⟩ = some (.int .i64 x)) := Lib.hid fun w' hb =>
    ⟨(hb.cell (p := ⟨A0, 0, none⟩) l0).trans c0, (hb.cell (p := ⟨A1, 0, none⟩) l1).trans c1, (hb.cell (p := ⟨b, off + i, none⟩) l2).trans c2⟩
  go_enter Tryd.func37, Tryd.ntmps37
  go_wp2_with fail
  go_region_held3 (fun w' => w'.cell? ⟨A0, 0, none⟩ = some (.func (.func 24) #[] #[]) ∧ w'.cell? ⟨A1, 0, none⟩ = some (.slice (some ⟨b, off, none⟩) n cap) ∧ w'.cell? ⟨b, off + i, none⟩ = some (.int .i64 x))
    (exact HKEEP.out _ (by (try have hb1 := HB1.out); (repeat' (first | (with_reducible assumption) | (with_reducible exact Below.refl _ _) | (with_reducible refine below_drewN ?_ _) | (with_reducible refine Below.drew ?_) | (with_reducible refine Below.alloc ?_ ?_ _) | (with_reducible refine Below.setCell ?_ ?_ _) | (with_reducible refine Below.trans ?_ (Below.mono (by assumption) ?_)) | (with_reducible exact Nat.le_refl _) | (with_reducible assumption) | omega | (simp; omega) | (simp; done)))))
    (first | (go_at_call 24; refine (HXX.out _).mono ?_; rintro e w1 ⟨rfl, hb1⟩; have HB1 := Lib.hid hb1; clear hb1))
  all_goals
    go_wp2
    go_ret
    have hb1 := HB1.out
    exact ⟨rfl, by (repeat' (first | (with_reducible assumption) | (with_reducible exact Below.refl _ _) | (with_reducible refine below_drewN ?_ _) | (with_reducible refine Below.drew ?_) | (with_reducible refine Below.alloc ?_ ?_ _) | (with_reducible refine Below.setCell ?_ ?_ _) | (with_reducible refine Below.trans ?_ (Below.mono (by assumption) ?_)) | (with_reducible exact Nat.le_refl _) | (with_reducible assumption) | omega | (simp; omega) | (simp; done)))⟩
set_option maxHeartbeats 1000000 in
/-- impl.mapped over numbers, at strconv.Itoa. -/
theorem mappedIS (v : Value) (l : List Int) (f : Nat → ByteArray) (w : World) (hv : Sl w v l) (hl : l.length ≤ 1000)
    (HI : ∀ i, i < l.length → ∀ w', Calls Tryd.prog 24 #[.int .i64 (l.getD i 0)] w' fun e w'' => e = .returned (.string (f i)) ∧ Below w'.heap.size w' w'') :
    Calls Tryd.prog 23 #[v, .func (.func 24) #[] #[]] w fun e w' => ∃ g, e = .returned (.slice (some ⟨g, 0, none⟩) l.length l.length) ∧ w.heap.size ≤ g ∧ SBlk w' g l.length ∧ Strs w' g f l.length ∧ Below w.heap.size w w' := by
  have HX : Hid (∀ (T1 T2 : TypeId) (i : Nat) w', i < l.length → Below ((w.alloc (lblk T1 v)).alloc (lblk T2 (.func (.func 24) #[] #[]))).heap.size ((w.alloc (lblk T1 v)).alloc (lblk T2 (.func (.func 24) #[] #[]))) w' →
      Calls Tryd.prog 37 #[.int .i64 i, .pointer (some ⟨w.heap.size + 1, 0, none⟩), .pointer (some ⟨w.heap.size, 0, none⟩)] w' fun e w'' => e = .returned (.string (f i)) ∧ Below w'.heap.size w' w'') := Lib.hid fun T1 T2 i w' hi hb => by
    obtain ⟨b, off, cap, rfl, hbl, hc⟩ := hv.open rfl (by omega)
    obtain ⟨t0, t1⟩ := two w (lblk T1 (.slice (some ⟨b, off, none⟩) l.length cap)) (lblk T2 (.func (.func 24) #[] #[]))
    refine cloIS _ _ i l.length b off cap _ _ w' hi (HI i hi) (at_box (T := T2) ((hb.block _ (by simp)).trans t1)) (at_box (T := T1) ((hb.block _ (by simp; omega)).trans t0)) ?_
    rw [hb.cell (p := ⟨b, off + i, none⟩) (by simp; omega), World.cell?_alloc_past _ _ _ (by simp; omega), World.cell?_alloc_past _ _ _ hbl]
    exact hc i hi
  obtain ⟨a, cap, rfl⟩ := hv.form
  clear hv HI
  generalize l.length = n at *
  go_enter Tryd.func23, Tryd.ntmps23
  go_wp2_with fail
  refine (listOf_IS n f (w.heap.size + 1) w.heap.size _ hl (HX.out _ _)).mono ?_
  rintro e w1 ⟨rfl, hk1, he1, hb1⟩
  have HK := Lib.hid hk1; clear hk1
  have HE := Lib.hid he1; clear he1
  have HB1 := Lib.hid hb1; clear hb1
  go_wp2
  go_ret
  have hb1 := HB1.out
  exact ⟨_, rfl, by omega, by simpa using HK.out, by simpa using HE.out, by (repeat' (first | (with_reducible assumption) | (with_reducible exact Below.refl _ _) | (with_reducible refine below_drewN ?_ _) | (with_reducible refine Below.drew ?_) | (with_reducible refine Below.alloc ?_ ?_ _) | (with_reducible refine Below.setCell ?_ ?_ _) | (with_reducible refine Below.trans ?_ (Below.mono (by assumption) ?_)) | (with_reducible exact Nat.le_refl _) | (with_reducible assumption) | omega | (simp; omega) | (simp; done)))⟩
end Go.Proofs.YthklnfanbegecacDoor
