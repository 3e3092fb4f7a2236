/- Counts of places in memory; impl.field.countsIn, by a contract. -/
import Derived.Test.YtgndlpdcebmgmacKH
import Derived.Test.YtgndlpdcebmgmacOA
import Derived.Laws.Rows
import Derived.Laws.CopyOwn
import Derived.Great.BuildSlice
import Derived.Deep.RegionWith
namespace Go.Proofs.Ytgndlpdcebmgmac
open Go.RowKit
/-- The cells of counts. -/
def VA (q : Int) (c : Nat → Int) : Array Value := #[.int .i64 q, .int .i64 (pr q), .int .i64 (pl q), .int .i64 (c 0), .int .i64 (c 1), .int .i64 (c 2), .int .i64 (c 3), .int .i64 (c 4), .int .i64 (c 5), .int .i64 (c 6), .int .i64 (c 7), .int .i64 (c 8), .int .i64 (c 9), .int .i64 (c 10), .int .i64 (c 11), .int .i64 (c 12), .int .i64 (c 13), .int .i64 (c 14), .int .i64 (c 15)]
theorem VA_size (q : Int) (c : Nat → Int) : (VA q c).size = 19 := rfl
theorem VA_get (q : Int) (c : Nat → Int) (i : Nat) (hi : i < 16) : (VA q c)[3 + i]? = some (.int .i64 (c i)) := by
  have hc : i = 0 ∨ i = 1 ∨ i = 2 ∨ i = 3 ∨ i = 4 ∨ i = 5 ∨ i = 6 ∨ i = 7 ∨ i = 8 ∨ i = 9 ∨ i = 10 ∨ i = 11 ∨ i = 12 ∨ i = 13 ∨ i = 14 ∨ i = 15 := by omega
  rcases hc with rfl | rfl | rfl | rfl | rfl | rfl | rfl | rfl | rfl | rfl | rfl | rfl | rfl | rfl | rfl | rfl
  all_goals rfl
theorem VA_set (q : Int) (c : Nat → Int) (i : Nat) (hi : i < 16) (x : Int) : (VA q c).setIfInBounds (3 + i) (.int .i64 x) = VA q (upd c i x) := by
  have hc : i = 0 ∨ i = 1 ∨ i = 2 ∨ i = 3 ∨ i = 4 ∨ i = 5 ∨ i = 6 ∨ i = 7 ∨ i = 8 ∨ i = 9 ∨ i = 10 ∨ i = 11 ∨ i = 12 ∨ i = 13 ∨ i = 14 ∨ i = 15 := by omega
  rcases hc with rfl | rfl | rfl | rfl | rfl | rfl | rfl | rfl | rfl | rfl | rfl | rfl | rfl | rfl | rfl | rfl
  all_goals simp [VA, upd]
theorem VA_one (q : Int) (c : Nat → Int) : (VA q c).all (·.oneCell') = true := by
  simp [VA, Value.oneCell']
abbrev vblk (q : Int) (c : Nat → Int) : Obj := .cells (VA q c) 49
theorem vcells {w : World} {b : Nat} {q : Int} {c : Nat → Int} {T : TypeId} (h : w.heap[b]? = some (.cells (VA q c) T (0, 0))) :
    w.cell? ⟨b, 0, none⟩ = some (.int .i64 q) ∧ w.cell? ⟨b, 1, none⟩ = some (.int .i64 (pr q)) ∧ w.cell? ⟨b, 2, none⟩ = some (.int .i64 (pl q)) ∧ (∀ i, i < 16 → w.cell? ⟨b, 3 + i, none⟩ = some (.int .i64 (c i))) ∧ (∀ o, w.frozen? ⟨b, o, none⟩ = false) := by
  refine ⟨?_, ?_, ?_, fun i hi => ?_, fun o => frozen_of_row w b o _ _ h⟩
  · rw [cell_of_row w b _ _ _ _ h]; rfl
  · rw [cell_of_row w b _ _ _ _ h]; rfl
  · rw [cell_of_row w b _ _ _ _ h]; rfl
  · rw [cell_of_row w b _ _ _ _ h]; exact VA_get q c i hi
/-- The memory of countsIn between two rounds. -/
structure TV (w0 wr : World) (m : Nat) (c : Nat → Int) : Prop where
  hz : ∃ cs, cs.size = 19 ∧ wr.heap[w0.heap.size + 1]? = some (.cells cs 49 (0, 0))
  hF : wr.heap[w0.heap.size + 2]? = some (vblk (m : Int) c)
  bel : Below w0.heap.size w0 wr
theorem TV.lt {w0 wr : World} {m : Nat} {c : Nat → Int} (h : TV w0 wr m c) : w0.heap.size + 2 < wr.heap.size := (Array.getElem?_eq_some_iff.1 h.hF).1
theorem TV.below {w0 wr w' : World} {m : Nat} {c : Nat → Int} (h : TV w0 wr m c) (hb : Below wr.heap.size wr w') : TV w0 w' m c := by
  have h1 := h.lt
  have h3 := h.bel.size
  obtain ⟨cs, hc, hz⟩ := h.hz
  exact ⟨⟨cs, hc, (hb.block _ (by omega)).trans hz⟩, (hb.block _ h1).trans h.hF, h.bel.trans (hb.mono h3)⟩
theorem TV.put {w0 wr : World} {m : Nat} {c : Nat → Int} (h : TV w0 wr m c) (i : Nat) (hi : i < 16) (x : Int) : TV w0 (wr.setCell ⟨w0.heap.size + 2, 3 + i, none⟩ (.int .i64 x)) m (upd c i x) := by
  obtain ⟨cs, hc, hz⟩ := h.hz
  have h2 := heap_setCell_same wr (w0.heap.size + 2) (3 + i) _ _ (.int .i64 x) h.hF
  rw [VA_set _ _ _ hi] at h2
  exact ⟨⟨cs, hc, (heap_setCell_other _ _ _ _ (by simp)).trans hz⟩, h2, h.bel.setCell (by simp) _⟩
theorem VA_zero (q : Int) : VA q (fun _ => 0) = #[.int .i64 q, .int .i64 (pr q), .int .i64 (pl q), .int .i64 0, .int .i64 0, .int .i64 0, .int .i64 0, .int .i64 0, .int .i64 0, .int .i64 0, .int .i64 0, .int .i64 0, .int .i64 0, .int .i64 0, .int .i64 0, .int .i64 0, .int .i64 0, .int .i64 0, .int .i64 0] := rfl
abbrev zvblk : Obj := .cells #[.int .i64 0, .int .i64 0, .int .i64 0, .int .i64 0, .int .i64 0, .int .i64 0, .int .i64 0, .int .i64 0, .int .i64 0, .int .i64 0, .int .i64 0, .int .i64 0, .int .i64 0, .int .i64 0, .int .i64 0, .int .i64 0, .int .i64 0, .int .i64 0, .int .i64 0] 49
theorem TV.start (w : World) (m : Nat) (o : Obj) : TV w ((((w.alloc o).alloc zvblk).alloc zvblk).setRow (w.heap.size + 1 + 1) (VA (m : Int) fun _ => 0)) m fun _ => 0 := by
  have HTH := three w o zvblk zvblk
  refine ⟨⟨_, ?_, (setRow_other _ _ _ _ (by omega)).trans HTH.2.1⟩, setRow_heap _ _ _ _ _ _ HTH.2.2, below_setRow ((((Below.refl w.heap.size w).alloc (by simp) _).alloc (by simp) _).alloc (by simp; omega) _) (by omega) _⟩
  rfl
set_option maxRecDepth 100000 in
set_option maxHeartbeats 4000000 in
/-- impl.field.countsIn. -/
theorem countsInE (m g n cap : Nat) (t : Nat → Int) (w : World) (h : isSz (m : Int) = true) (hg : g < w.heap.size) (he : Els w g (m : Int) t n) (ht : ∀ i, i < n → El (m : Int) (t i)) (hn : n ≤ 1000) :
    Calls Try.prog 55 #[fdE (m : Int), .slice (some ⟨g, 0, none⟩) n cap] w fun e w' => e = .returned (.agg (VA (m : Int) (oc t n))) ∧ Below w.heap.size w w' := by
  have hq := isSz_le (m : Int) h
  have HN := Lib.hid (fun i w (hi : i < n) => numberE (m : Int) (t i) w h (ht i hi).1 (ht i hi).2)
  have HT := Lib.hid ht
  have HE := Lib.hid he
  have HBD := Lib.hid (oc_bd t)
  have HSU := Lib.hid (oc_succ t)
  have HO0 : Hid (oc t 0 = fun _ => 0) := Lib.hid rfl
  clear h he ht
  go_enter Try.func55, Try.ntmps55
  have HTH := Lib.hid (three w (.cells #[.int .i64 m, .int .i64 (pr m), .int .i64 (pl m)] 35) zvblk zvblk)
  have HI : Hid ((Try.prog.info? 49).map (·.size) = some (VA (m : Int) fun _ => 0).size) := Lib.hid (by rw [VA_size]; kernel_rfl)
  have HV1 := Lib.hid (VA_one (m : Int) fun _ => 0)
  go_wp2_with (first | (refine wpList_store_rowTo rfl 49 _ _ rfl rfl (w.heap.size + 1 + 1) (VA (m : Int) fun _ => 0) rfl rfl 49 _ HTH.out.2.2 HI.out rfl HV1.out ?_) | fail)
  go_loopw [12] (fun vi wr => ∃ i : Nat, i ≤ n ∧ vi = .int .i64 i ∧ TV w wr m (oc t i)) (fun vi _ => n - (intOf vi).toNat)
  case atStart =>
    exact ⟨0, Nat.zero_le _, rfl, by rw [HO0.out]; exact TV.start _ _ _⟩
  case round =>
    obtain ⟨i, hin, rfl, hv⟩ := hrel
    have hzb := hv.bel.size
    have hlv := hv.lt
    by_cases hlt : i < n
    · obtain ⟨c0, c1, c2, c3, c4, c5, c6⟩ := (HE.out.below hv.bel hg) i hlt
      have hgr : g < wr.heap.size := by omega
      have hte := HT.out i hlt
      have HN' := Lib.hid (fun w => HN.out i w hlt)
      obtain ⟨k, hk⟩ := Int.eq_ofNat_of_zero_le hte.1
      have hk2 : k < 16 := by have := hte.2; omega
      have HUP := Lib.hid (HSU.out i k hk)
      have hbd := HBD.out i k
      rw [hk] at HN' c3 c4 c5 c6
      have HV := Lib.hid hv
      clear hv hte hk
      obtain ⟨x, hx⟩ : ∃ x, oc t i k = x := ⟨_, rfl⟩
      have hxx : oc t i k = x := hx
      rw [hx] at hbd HUP
      clear hx
      have HXX := Lib.hid hxx
      clear hxx
      have hwr : IntKind.i64.wrap (x + 1) = x + 1 := IntWalk.i64_in _ (by omega)
      go_wp2_with fail
      refine (HN'.out _).mono ?_
      rintro e w5 ⟨rfl, hb5⟩
      have hbz : Below wr.heap.size wr w5 := by (repeat' (first | (with_reducible assumption) | (with_reducible exact Below.refl _ _) | (with_reducible refine below_drewN ?_ _) | (with_reducible refine Below.drew ?_) | (with_reducible refine Below.alloc ?_ ?_ _) | (with_reducible refine Below.setCell ?_ ?_ _) | (with_reducible refine Below.trans ?_ (Below.mono (by assumption) ?_)) | (with_reducible exact Nat.le_refl _) | (with_reducible assumption) | omega | (simp; omega) | (simp; done)))
      have ht5 := HV.out.below (w' := w5) hbz
      obtain ⟨v0, v1, v2, vc, vf⟩ := vcells ht5.hF
      have hck := vc k hk2
      rw [HXX.out] at hck
      have hfk := vf (3 + k)
      have hz5 := hbz.size
      have HV5 := Lib.hid (ht5.put k hk2 (x + 1))
      rw [← HUP.out] at HV5
      clear v0 v1 v2 vc vf ht5 hb5 hbz HV HN' HXX c0 c1 c2 c3 c4 c5 c6
      go_wp2
      go_roundw
      case rel => exact ⟨i + 1, by omega, by go_num, HV5.out⟩
      case measure => simp [intOf]; omega
    · obtain rfl : n = i := by omega
      have HV := Lib.hid hv.bel
      have hF : wr.heap[w.heap.size + 1 + 1]? = some (.cells (VA (m : Int) (oc t n)) 49 (0, 0)) := hv.hF
      obtain ⟨cs, hcs, hz⟩ := hv.hz
      have hu := Try.underlying49
      have hi : (Try.prog.info? 49).map (·.size) = some (VA (m : Int) (oc t n)).size := by rw [VA_size]; kernel_rfl
      have hz2 : cs.size = (VA (m : Int) (oc t n)).size := hcs
      have hone := VA_one (m : Int) (oc t n)
      clear hv HN HT HE HBD HSU HO0
      obtain ⟨A, hA⟩ : ∃ A, VA (m : Int) (oc t n) = A := ⟨_, rfl⟩
      rw [hA] at hF hi hz2 hone
      have HA := Lib.hid hA
      clear hA
      go_wp2_with (first | refine wpList_load_row rfl 49 _ rfl (w.heap.size + 1 + 1) rfl 49 A (0, 0) _ hF hu rfl hi ?_ | refine wpList_store_row rfl 49 _ _ rfl (w.heap.size + 1) A rfl rfl 49 _ hz hi hz2 hone ?_ | fail)
      refine bodyPost_ret (results_cell_row rfl _ _ (w.heap.size + 1) 49 A (0, 0) _ rfl (setRow_heap wr (w.heap.size + 1) _ A _ _ hz) hu rfl hi) rfl ?_
      exact ⟨by rw [HA.out], below_setRow HV.out (by omega) A⟩
end Go.Proofs.Ytgndlpdcebmgmac
