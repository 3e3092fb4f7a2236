/- The draws of the general laws: the cursor (next, pick, one, among, size, element), by contracts: some numbers. -/
import Derived.Test.YtljijnanmpajaaaGreatKC
namespace Go.Proofs.YtljijnanmpajaaaGreat
open Go.RowKit
/-- The cursor at cb, over n bytes, before its step k + 1. -/
def Cu (w : World) (cb : Nat) (a : Option Addr) (n c k : Nat) : Prop :=
  n ≤ 1048576 ∧ (∃ pos seed : Int, w.heap[cb]? = some (.cells #[.slice a n c, .int .i64 pos, .int .u64 seed] 53 (0, 0)) ∧ 0 ≤ pos ∧ pos ≤ k) ∧
    ∀ i, i < n → ∃ b off x, a = some ⟨b, off, none⟩ ∧ b < w.heap.size ∧ b ≠ cb ∧ w.cell? ⟨b, off + i, none⟩ = some (.int .u8 x) ∧ 0 ≤ x ∧ x < 256
/-- All but the cursor is as it was. -/
def Kp (cb : Nat) (w w' : World) : Prop := Below cb w w' ∧ ∀ g, g < w.heap.size → g ≠ cb → w'.heap[g]? = w.heap[g]?
theorem Kp.refl (cb : Nat) (w : World) : Kp cb w w := ⟨Below.refl _ _, fun _ _ _ => rfl⟩
theorem Kp.trans {cb : Nat} {w w' w'' : World} (h : Kp cb w w') (h' : Kp cb w' w'') : Kp cb w w'' :=
  ⟨h.1.trans h'.1, fun g hg hne => (h'.2 g (Nat.lt_of_lt_of_le hg h.1.size) hne).trans (h.2 g hg hne)⟩
theorem Kp.drew {cb : Nat} {w w' : World} (h : Kp cb w w') : Kp cb w w'.drew := ⟨h.1.drew, h.2⟩
theorem cells3c {w : World} {b : Nat} {x0 x1 x2 : Value} {T : TypeId} (h : w.heap[b]? = some (.cells #[x0, x1, x2] T (0, 0))) :
    w.cell? ⟨b, 0, none⟩ = some x0 ∧ w.cell? ⟨b, 1, none⟩ = some x1 ∧ w.cell? ⟨b, 2, none⟩ = some x2 ∧ (∀ o, w.frozen? ⟨b, o, none⟩ = false) ∧ b < w.heap.size := by
  refine ⟨?_, ?_, ?_, fun o => frozen_of_row w b o _ _ h, (Array.getElem?_eq_some_iff.1 h).1⟩ <;> rw [cell_of_row w b _ _ _ (0, 0) h] <;> rfl
theorem and255 (s : Int) : 0 ≤ wrap64 (bits .and .u64 s 255) ∧ wrap64 (bits .and .u64 s 255) < 256 := by
  have h1 : ((BitVec.ofInt 64 s) &&& (BitVec.ofInt 64 255)).toNat ≤ 255 := by
    rw [BitVec.toNat_and]
    exact Nat.and_le_right
  have h2 : bits .and .u64 s 255 = (((BitVec.ofInt 64 s) &&& (BitVec.ofInt 64 255)).toNat : Int) := by
    show IntKind.u64.wrap ((((BitVec.ofInt 64 s) &&& (BitVec.ofInt 64 255)).toNat : Nat) : Int) = _
    generalize ((BitVec.ofInt 64 s) &&& (BitVec.ofInt 64 255)) = v at *
    have h3 : IntKind.u64.wrap ((v.toNat : Nat) : Int) = ((v.toNat : Nat) : Int) % 18446744073709551616 := rfl
    exact h3.trans (Int.emod_eq_of_lt (by omega) (by omega))
  rw [h2]
  generalize ((BitVec.ofInt 64 s) &&& (BitVec.ofInt 64 255)).toNat = v at *
  unfold wrap64
  omega
theorem Cu.step {w : World} {cb : Nat} {a : Option Addr} {n c k : Nat} (h : Cu w cb a n c k) (pos seed : Int) (p0 : 0 ≤ pos) (p1 : pos ≤ (k : Int) + 1) :
    Cu ((w.setCell ⟨cb, 1, none⟩ (.int .i64 pos)).setCell ⟨cb, 2, none⟩ (.int .u64 seed)) cb a n c (k + 1) ∧ Kp cb w ((w.setCell ⟨cb, 1, none⟩ (.int .i64 pos)).setCell ⟨cb, 2, none⟩ (.int .u64 seed)) := by
  obtain ⟨hn, ⟨pos0, seed0, hc, _, _⟩, hs⟩ := h
  have h1 := heap_setCell_same w cb 1 _ _ (.int .i64 pos) hc
  have h2 := heap_setCell_same _ cb 2 _ _ (.int .u64 seed) h1
  have ho : ∀ g, g ≠ cb → ((w.setCell ⟨cb, 1, none⟩ (.int .i64 pos)).setCell ⟨cb, 2, none⟩ (.int .u64 seed)).heap[g]? = w.heap[g]? := fun g hg => by
    rw [heap_setCell_other _ _ _ _ hg, heap_setCell_other _ _ _ _ hg]
  refine ⟨⟨hn, ⟨pos, seed, h2, p0, by omega⟩, fun i hi => ?_⟩, (by refine Below.setCell (Below.setCell (Below.refl _ _) ?_ _) ?_ _ <;> exact Nat.le_refl _), fun g _ hg => ho g hg⟩
  obtain ⟨b, off, x, e, hb, hne, hx, x0, x1⟩ := hs i hi
  exact ⟨b, off, x, e, by simpa using hb, hne, (World.cell?_of_block (a := ⟨b, off + i, none⟩) (ho b hne)).trans hx, x0, x1⟩
theorem Cu.drew {w : World} {cb : Nat} {a : Option Addr} {n c k : Nat} (h : Cu w cb a n c k) : Cu w.drew cb a n c k := h
theorem Cu.kp {w w' : World} {cb : Nat} {a : Option Addr} {n c k : Nat} (h : Cu w cb a n c k) (hb : Below w.heap.size w w') : Cu w' cb a n c k := by
  obtain ⟨hn, ⟨pos, seed, hc, p0, p1⟩, hs⟩ := h
  refine ⟨hn, ⟨pos, seed, (hb.block _ (Array.getElem?_eq_some_iff.1 hc).1).trans hc, p0, p1⟩, fun i hi => ?_⟩
  obtain ⟨b, off, x, e, hbl, hne, hx, x0, x1⟩ := hs i hi
  exact ⟨b, off, x, e, by have := hb.size; omega, hne, (hb.cell (p := ⟨b, off + i, none⟩) hbl).trans hx, x0, x1⟩
theorem Kp.below {cb : Nat} {w w' : World} (hb : Below w.heap.size w w') (hc : cb ≤ w.heap.size) : Kp cb w w' := ⟨hb.mono hc, fun g hg _ => hb.block g hg⟩
set_option maxRecDepth 100000 in
set_option maxHeartbeats 4000000 in
/-- spec.l1Cur.next. -/
theorem next_any (cb : Nat) (a : Option Addr) (n c k : Nat) (w : World) (h : Cu w cb a n c k) (hk : k ≤ 1000000) :
    Calls Tryz.prog 180 #[.pointer (some ⟨cb, 0, none⟩)] w fun e w' => ∃ r : Int, e = .returned (.int .i64 r) ∧ 0 ≤ r ∧ r < 256 ∧ Cu w' cb a n c (k + 1) ∧ Kp cb w w' := by
  have HCU := Lib.hid h
  obtain ⟨hn, ⟨pos, seed, hc, p0, p1⟩, hs⟩ := h
  obtain ⟨c0, c1, c2, cf, cl⟩ := cells3c hc
  have hw : IntKind.i64.wrap (pos + 1) = pos + 1 := IntWalk.i64_in _ (by omega)
  by_cases hlt : pos < (n : Int)
  · obtain ⟨i, rfl⟩ := Int.eq_ofNat_of_zero_le p0
    obtain ⟨b, off, x, rfl, hb, hne, hx, x0, x1⟩ := hs i (by omega)
    have hin : i < n := by omega
    have hw8 : IntKind.i64.wrap x = x := IntWalk.i64_in _ (by omega)
    go_enter Tryz.func180, Tryz.ntmps180
    clear hs
    go_wp2_with fail
    go_region
    go_wp2_with fail
    go_region
    go_wp2_with fail
    go_region
    go_wp2_with fail
    go_ret
    obtain ⟨s1, s2⟩ := HCU.out.step ((i : Int) + 1) (IntKind.u64.wrap (IntKind.u64.wrap (IntKind.u64.wrap (seed * 6364136223846793005) + x) + 1442695040888963407)) (by omega) (by omega)
    exact ⟨x, rfl, x0, x1, s1.drew, s2.drew.drew.drew⟩
  · clear hs
    go_enter Tryz.func180, Tryz.ntmps180
    go_wp2_with fail
    go_region
    go_wp2_with fail
    go_region
    go_wp2_with fail
    go_ret
    obtain ⟨s1, s2⟩ := HCU.out.step (pos + 1) (IntKind.u64.wrap (IntKind.u64.wrap (IntKind.u64.wrap (seed * 6364136223846793005)) + 1442695040888963407)) (by omega) (by omega)
    exact ⟨_, rfl, (and255 _).1, (and255 _).2, s1.drew, s2.drew.drew⟩
theorem Cu.mono {w : World} {cb : Nat} {a : Option Addr} {n c k k' : Nat} (h : Cu w cb a n c k) (hk : k ≤ k') : Cu w cb a n c k' := by
  obtain ⟨hn, ⟨pos, seed, hc, p0, p1⟩, hs⟩ := h
  exact ⟨hn, ⟨pos, seed, hc, p0, by omega⟩, hs⟩
set_option maxRecDepth 100000 in
set_option maxHeartbeats 4000000 in
/-- spec.l1Cur.pick. -/
theorem pick_any (cb : Nat) (a : Option Addr) (n c k : Nat) (m : Int) (w : World) (h : Cu w cb a n c k) (hk : k ≤ 999990) :
    Calls Tryz.prog 104 #[.pointer (some ⟨cb, 0, none⟩), .int .i64 m] w fun e w' => ∃ r : Int, e = .returned (.int .i64 r) ∧ (m ≤ 1 → r = 0) ∧ (1 < m → 0 ≤ r ∧ r < m) ∧ Cu w' cb a n c (k + 2) ∧ Kp cb w w' := by
  have HN := Lib.hid (fun k w (hc : Cu w cb a n c k) (hk : k ≤ 1000000) => next_any cb a n c k w hc hk)
  have HC := Lib.hid h; clear h
  by_cases h1 : m ≤ 1
  · go_enter Tryz.func104, Tryz.ntmps104
    go_wp2
    go_ret
    exact ⟨0, rfl, fun _ => rfl, fun h => absurd h (by omega), HC.out.mono (by omega), Kp.refl _ _⟩
  · by_cases h2 : 200 < m
    · go_enter Tryz.func104, Tryz.ntmps104
      go_wp2_with fail
      refine (HN.out _ _ HC.out (by omega)).mono ?_
      rintro e w1 ⟨x, rfl, x0, x1, hc1, hk1⟩
      have HC1 := Lib.hid hc1
      have HK1 := Lib.hid hk1
      clear hc1 hk1
      have hw1 : IntKind.i64.wrap (x * 256) = x * 256 := IntWalk.i64_in _ (by omega)
      go_wp2_with fail
      refine (HN.out _ _ HC1.out (by omega)).mono ?_
      rintro e w2 ⟨y, rfl, y0, y1, hc2, hk2⟩
      have HC2 := Lib.hid hc2
      have HK2 := Lib.hid hk2
      clear hc2 hk2
      have hw2 : IntKind.i64.wrap (x * 256 + y) = x * 256 + y := IntWalk.i64_in _ (by omega)
      have hm0 : ¬ m = 0 := by omega
      go_wp2
      go_ret
      exact ⟨_, rfl, fun h => absurd h (by omega), fun _ => ⟨Int.emod_nonneg _ (by omega), Int.emod_lt_of_pos _ (by omega)⟩, HC2.out, HK1.out.trans HK2.out⟩
    · go_enter Tryz.func104, Tryz.ntmps104
      go_wp2_with fail
      refine (HN.out _ _ HC.out (by omega)).mono ?_
      rintro e w1 ⟨x, rfl, x0, x1, hc1, hk1⟩
      have HC1 := Lib.hid hc1
      have HK1 := Lib.hid hk1
      clear hc1 hk1
      have hm0 : ¬ m = 0 := by omega
      go_wp2
      go_ret
      exact ⟨_, rfl, fun h => absurd h (by omega), fun _ => ⟨Int.emod_nonneg _ (by omega), Int.emod_lt_of_pos _ (by omega)⟩, HC1.out.mono (by omega), HK1.out⟩
set_option maxHeartbeats 1000000 in
/-- spec.l1Cur.one. -/
theorem one_any (cb : Nat) (a : Option Addr) (n c k : Nat) (m : Int) (w : World) (h : Cu w cb a n c k) (hk : k ≤ 999990) :
    Calls Tryz.prog 107 #[.pointer (some ⟨cb, 0, none⟩), .int .i64 m] w fun e w' => ∃ r : Bool, e = .returned (.bool r) ∧ Cu w' cb a n c (k + 2) ∧ Kp cb w w' := by
  have HN := Lib.hid (pick_any cb a n c k m w h hk)
  clear h
  go_enter Tryz.func107, Tryz.ntmps107
  go_wp2_with fail
  refine HN.out.mono ?_
  rintro e w1 ⟨x, rfl, _, _, hc1, hk1⟩
  have HC1 := Lib.hid hc1
  have HK1 := Lib.hid hk1
  clear hc1 hk1
  go_wp2
  go_ret
  exact ⟨_, rfl, HC1.out, HK1.out⟩
theorem cell_lit {w : World} {g : Nat} {l : List Int} {T : TypeId} (h : w.heap[g]? = some (.cells (l.map (Value.int .i64)).toArray T (0, 0))) (i : Nat) (hi : i < l.length) : w.cell? ⟨g, i, none⟩ = some (.int .i64 (l.getD i 0)) := by
  rw [cell_of_row w g i _ T (0, 0) h]
  simp [List.getD, hi]
set_option maxHeartbeats 1000000 in
/-- spec.l1Cur.among. -/
theorem among_any (cb g : Nat) (a : Option Addr) (n c k len cap : Nat) (l : List Int) (T : TypeId) (w : World) (h : Cu w cb a n c k) (hk : k ≤ 999990) (hg : w.heap[g]? = some (.cells (l.map (Value.int .i64)).toArray T (0, 0))) (hne : g ≠ cb) (hl : l.length = len) (h0 : 1 ≤ len) (h1 : len ≤ 1000) :
    Calls Tryz.prog 103 #[.pointer (some ⟨cb, 0, none⟩), .slice (some ⟨g, 0, none⟩) len cap] w fun e w' => ∃ i, i < len ∧ e = .returned (.int .i64 (l.getD i 0)) ∧ Cu w' cb a n c (k + 2) ∧ Kp cb w w' := by
  have HN := Lib.hid (pick_any cb a n c k len w h hk)
  have hgl : g < w.heap.size := (Array.getElem?_eq_some_iff.1 hg).1
  have HG : Hid (∀ w', Kp cb w w' → ∀ i, i < len → w'.cell? ⟨g, i, none⟩ = some (.int .i64 (l.getD i 0))) := Lib.hid fun w' hkp i hi => cell_lit ((hkp.2 g hgl hne).trans hg) i (by omega)
  clear h hg hl
  go_enter Tryz.func103, Tryz.ntmps103
  go_wp2_with fail
  refine HN.out.mono ?_
  rintro e w1 ⟨x, rfl, hx0, hx1, hc1, hk1⟩
  obtain ⟨i, rfl⟩ : ∃ i : Nat, x = (i : Int) := by
    by_cases h2 : 1 < (len : Int)
    · exact Int.eq_ofNat_of_zero_le (hx1 h2).1
    · exact ⟨0, hx0 (by omega)⟩
  have hil : i < len := by
    by_cases h2 : 1 < (len : Int)
    · have := (hx1 h2).2; omega
    · have := hx0 (by omega); omega
  have hci := HG.out _ hk1 i hil
  have HC1 := Lib.hid hc1
  have HK1 := Lib.hid hk1
  clear hc1 hk1 hx0 hx1
  go_wp2
  go_ret
  exact ⟨i, hil, rfl, HC1.out, HK1.out⟩
set_option maxHeartbeats 1000000 in
/-- spec.l1Cur.sureSize. -/
theorem sureSize_any (cb : Nat) (a : Option Addr) (n c k : Nat) (w : World) (h : Cu w cb a n c k) (hk : k ≤ 999990) :
    Calls Tryz.prog 161 #[.pointer (some ⟨cb, 0, none⟩)] w fun e w' => ∃ r : Int, e = .returned (.int .i64 r) ∧ Cu w' cb a n c (k + 2) ∧ Kp cb w w' := by
  have hcl : cb < w.heap.size := by obtain ⟨_, ⟨_, _, hc, _⟩, _⟩ := h; exact (Array.getElem?_eq_some_iff.1 hc).1
  have HA := Lib.hid (fun o (ho : o = Obj.cells (([2, 3, 4, 5, 7, 8, 9, 11, 13, 16, 4, 8, 9, 5] : List Int).map (Value.int .i64)).toArray 3 (0, 0)) => among_any cb w.heap.size a n c k 14 14 [2, 3, 4, 5, 7, 8, 9, 11, 13, 16, 4, 8, 9, 5] 3 (w.alloc o) (h.kp (Below.alloc (Below.refl _ _) (Nat.le_refl _) _)) hk (by rw [heap_alloc_new, ho]) (by omega) rfl (by omega) (by omega))
  have HB : Hid (∀ o, Below w.heap.size w (w.alloc o)) := Lib.hid fun o => Below.alloc (Below.refl _ _) (Nat.le_refl _) _
  clear h
  go_enter Tryz.func161, Tryz.ntmps161
  go_wp2_with fail
  refine (HA.out _ rfl).mono ?_
  rintro e w1 ⟨i, _, rfl, hc1, hk1⟩
  have HC1 := Lib.hid hc1
  have HK1 : Hid (Kp cb w w1) := Lib.hid ((Kp.below (HB.out _) (by omega)).trans hk1)
  clear hc1 hk1
  go_wp2
  go_ret
  exact ⟨_, rfl, HC1.out, HK1.out⟩
set_option maxHeartbeats 1000000 in
/-- spec.l1Cur.size. -/
theorem size_any (cb : Nat) (a : Option Addr) (n c k : Nat) (w : World) (h : Cu w cb a n c k) (hk : k ≤ 999900) :
    Calls Tryz.prog 81 #[.pointer (some ⟨cb, 0, none⟩)] w fun e w' => ∃ r : Int, e = .returned (.int .i64 r) ∧ Cu w' cb a n c (k + 4) ∧ Kp cb w w' := by
  have hcl : ∀ w, Cu w cb a n c (k + 2) → cb < w.heap.size := fun w h => by obtain ⟨_, ⟨_, _, hc, _⟩, _⟩ := h; exact (Array.getElem?_eq_some_iff.1 hc).1
  have HO := Lib.hid (one_any cb a n c k 16 w h (by omega))
  have HS := Lib.hid (fun w (h : Cu w cb a n c (k + 2)) => sureSize_any cb a n c (k + 2) w h (by omega))
  have HA := Lib.hid (fun o w (h : Cu w cb a n c (k + 2)) (ho : o = Obj.cells (([0, 1, 6, 10, 15, 17, -1, 4611686018427387904] : List Int).map (Value.int .i64)).toArray 3 (0, 0)) => among_any cb w.heap.size a n c (k + 2) 8 8 [0, 1, 6, 10, 15, 17, -1, 4611686018427387904] 3 (w.alloc o) (h.kp (Below.alloc (Below.refl _ _) (Nat.le_refl _) _)) (by omega) (by rw [heap_alloc_new, ho]) (by have := hcl w h; omega) rfl (by omega) (by omega))
  have HB : Hid (∀ w o, Cu w cb a n c (k + 2) → Kp cb w (w.alloc o)) := Lib.hid fun w o h => Kp.below (Below.alloc (Below.refl _ _) (Nat.le_refl _) _) (by have := hcl w h; omega)
  clear h hcl
  go_enter Tryz.func81, Tryz.ntmps81
  go_wp2_with fail
  refine HO.out.mono ?_
  rintro e w1 ⟨b, rfl, hc1, hk1⟩
  have HC1 := Lib.hid hc1
  have HK1 := Lib.hid hk1
  clear hc1 hk1
  cases b
  · go_wp2_with fail
    refine (HS.out _ HC1.out).mono ?_
    rintro e w2 ⟨r, rfl, hc2, hk2⟩
    have HC2 := Lib.hid hc2
    have HK2 := Lib.hid hk2
    clear hc2 hk2
    go_wp2
    go_ret
    exact ⟨_, rfl, HC2.out, HK1.out.trans HK2.out⟩
  · go_wp2_with fail
    refine (HA.out _ _ HC1.out rfl).mono ?_
    rintro e w2 ⟨i, _, rfl, hc2, hk2⟩
    have HC2 := Lib.hid hc2
    have HK2 : Hid (Kp cb w w2) := Lib.hid ((HK1.out.trans (HB.out _ _ HC1.out)).trans hk2)
    clear hc2 hk2
    go_wp2
    go_ret
    exact ⟨_, rfl, HC2.out, HK2.out⟩
theorem least_any (x y : Int) (w : World) : Calls Tryz.prog 106 #[.int .i64 x, .int .i64 y] w fun e w' => ∃ r : Int, e = .returned (.int .i64 r) ∧ w = w' := by
  by_cases h : x < y
  · go_enter Tryz.func106, Tryz.ntmps106
    go_wp2
    go_ret
    first | exact ⟨_, rfl, rfl⟩ | exact ⟨⟨_, rfl⟩, rfl⟩
  · go_enter Tryz.func106, Tryz.ntmps106
    go_wp2
    go_ret
    first | exact ⟨_, rfl, rfl⟩ | exact ⟨⟨_, rfl⟩, rfl⟩
theorem most_any (x y : Int) (w : World) : Calls Tryz.prog 105 #[.int .i64 x, .int .i64 y] w fun e w' => ∃ r : Int, e = .returned (.int .i64 r) ∧ w = w' := by
  by_cases h : y < x
  · go_enter Tryz.func105, Tryz.ntmps105
    go_wp2
    go_ret
    first | exact ⟨_, rfl, rfl⟩ | exact ⟨⟨_, rfl⟩, rfl⟩
  · go_enter Tryz.func105, Tryz.ntmps105
    go_wp2
    go_ret
    first | exact ⟨_, rfl, rfl⟩ | exact ⟨⟨_, rfl⟩, rfl⟩
set_option maxHeartbeats 1000000 in
/-- spec.l1Cur.element. -/
theorem elem_any (cb : Nat) (a : Option Addr) (n c k : Nat) (q : Int) (w : World) (h : Cu w cb a n c k) (hk : k ≤ 999900) :
    Calls Tryz.prog 114 #[.pointer (some ⟨cb, 0, none⟩), .int .i64 q] w fun e w' => ∃ r : Int, e = .returned (.int .i64 r) ∧ Cu w' cb a n c (k + 4) ∧ Kp cb w w' := by
  have hcl : ∀ w, Cu w cb a n c (k + 2) → cb < w.heap.size := fun w h => by obtain ⟨_, ⟨_, _, hc, _⟩, _⟩ := h; exact (Array.getElem?_eq_some_iff.1 hc).1
  have HO := Lib.hid (one_any cb a n c k 24 w h (by omega))
  have HP := Lib.hid (fun w m (h : Cu w cb a n c (k + 2)) => pick_any cb a n c (k + 2) m w h (by omega))
  have HA := Lib.hid (fun o w u (h : Cu w cb a n c (k + 2)) (ho : o = Obj.cells (([-1, q, u, 4611686018427387904] : List Int).map (Value.int .i64)).toArray 3 (0, 0)) => among_any cb w.heap.size a n c (k + 2) 4 4 [-1, q, u, 4611686018427387904] 3 (w.alloc o) (h.kp (Below.alloc (Below.refl _ _) (Nat.le_refl _) _)) (by omega) (by rw [heap_alloc_new, ho]) (by have := hcl w h; omega) rfl (by omega) (by omega))
  have HB : Hid (∀ w o, Cu w cb a n c (k + 2) → Kp cb w (w.alloc o)) := Lib.hid fun w o h => Kp.below (Below.alloc (Below.refl _ _) (Nat.le_refl _) _) (by have := hcl w h; omega)
  have HL := Lib.hid (fun x y w => least_any x y w)
  have HM := Lib.hid (fun x y w => most_any x y w)
  clear h hcl
  obtain ⟨u, hu⟩ : ∃ u, IntKind.i64.wrap (q + 1) = u := ⟨_, rfl⟩
  go_enter Tryz.func114, Tryz.ntmps114
  go_wp2_with fail
  refine HO.out.mono ?_
  rintro e w1 ⟨b, rfl, hc1, hk1⟩
  have HC1 := Lib.hid hc1
  have HK1 := Lib.hid hk1
  clear hc1 hk1
  cases b
  · go_wp2_with fail
    refine (HL.out _ _ _).mono ?_
    rintro e _ ⟨x, rfl, rfl⟩
    go_wp2_with fail
    refine (HM.out _ _ _).mono ?_
    rintro e _ ⟨y, rfl, rfl⟩
    go_wp2_with fail
    refine (HP.out _ _ HC1.out).mono ?_
    rintro e w2 ⟨r, rfl, _, _, hc2, hk2⟩
    have HC2 := Lib.hid hc2
    have HK2 := Lib.hid hk2
    clear hc2 hk2
    go_wp2
    go_ret
    exact ⟨_, rfl, HC2.out, HK1.out.trans HK2.out⟩
  · go_wp2_with fail
    refine (HA.out _ _ _ HC1.out rfl).mono ?_
    rintro e w2 ⟨i, _, rfl, hc2, hk2⟩
    have HC2 := Lib.hid hc2
    have HK2 : Hid (Kp cb w w2) := Lib.hid ((HK1.out.trans (HB.out _ _ HC1.out)).trans hk2)
    clear hc2 hk2
    go_wp2
    go_ret
    exact ⟨_, rfl, HC2.out, HK2.out⟩
/-- A slice of bytes that came in. -/
def Bys (w : World) (a : Option Addr) (n : Nat) : Prop := n ≤ 1048576 ∧ ∀ i, i < n → ∃ b off x, a = some ⟨b, off, none⟩ ∧ b < w.heap.size ∧ w.cell? ⟨b, off + i, none⟩ = some (.int .u8 x) ∧ 0 ≤ x ∧ x < 256
theorem Bys.below {w w' : World} {a : Option Addr} {n : Nat} (h : Bys w a n) (hb : Below w.heap.size w w') : Bys w' a n :=
  ⟨h.1, fun i hi => by
    obtain ⟨b, off, x, e, hbl, hx, x0, x1⟩ := h.2 i hi
    exact ⟨b, off, x, e, by have := hb.size; omega, (hb.cell (p := ⟨b, off + i, none⟩) hbl).trans hx, x0, x1⟩⟩
theorem Bys.cur {w : World} {a : Option Addr} {n : Nat} (c : Nat) (h : Bys w a n) : Cu (w.alloc (.cells #[.slice a n c, .int .i64 0, .int .u64 0] 53)) w.heap.size a n c 0 := by
  refine ⟨h.1, ⟨0, 0, heap_alloc_new w _, by omega, by omega⟩, fun i hi => ?_⟩
  obtain ⟨b, off, x, e, hbl, hx, x0, x1⟩ := h.2 i hi
  exact ⟨b, off, x, e, by simp; omega, by omega, (World.cell?_alloc_past _ _ _ hbl).trans hx, x0, x1⟩
theorem Kp.start {w w' : World} {o : Obj} (h : Kp w.heap.size (w.alloc o) w') : Below w.heap.size w w' := (Below.alloc (Below.refl _ _) (Nat.le_refl _) _).trans h.1
end Go.Proofs.YtljijnanmpajaaaGreat
