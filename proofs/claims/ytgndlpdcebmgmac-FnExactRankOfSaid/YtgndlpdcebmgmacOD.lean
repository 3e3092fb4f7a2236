/- Tables with counts of places in memory; impl.poly.valueTable, impl.valueCounts.list, different, by contracts. -/
import Derived.Test.YtgndlpdcebmgmacOC
import Derived.Test.YtgndlpdcebmgmacKP
namespace Go.Proofs.Ytgndlpdcebmgmac
open Go.RowKit
/-- The cells of a table with counts. -/
def VB (q : Int) (c : Nat → Int) (v : Value) : Array Value := #[.int .i64 q, .int .i64 (pr q), .int .i64 (pl q), .int .i64 (c 0), .int .i64 (c 1), .int .i64 (c 2), .int .i64 (c 3), .int .i64 (c 4), .int .i64 (c 5), .int .i64 (c 6), .int .i64 (c 7), .int .i64 (c 8), .int .i64 (c 9), .int .i64 (c 10), .int .i64 (c 11), .int .i64 (c 12), .int .i64 (c 13), .int .i64 (c 14), .int .i64 (c 15), v]
theorem VB_size (q : Int) (c : Nat → Int) (v : Value) : (VB q c v).size = 20 := rfl
theorem VB_one (q : Int) (c : Nat → Int) (a : Option Addr) (n k : Nat) : (VB q c (.slice a n k)).all (·.oneCell') = true := by
  simp [VB, Value.oneCell']
abbrev zvtblk : Obj := .cells #[.int .i64 0, .int .i64 0, .int .i64 0, .int .i64 0, .int .i64 0, .int .i64 0, .int .i64 0, .int .i64 0, .int .i64 0, .int .i64 0, .int .i64 0, .int .i64 0, .int .i64 0, .int .i64 0, .int .i64 0, .int .i64 0, .int .i64 0, .int .i64 0, .int .i64 0, .slice none 0 0] 51
set_option maxRecDepth 100000 in
set_option maxHeartbeats 4000000 in
/-- impl.poly.valueTable. -/
theorem valueTableE (m g n cap : Nat) (f : Nat → Int) (w : World) (h : isSz (m : Int) = true) (hg : g < w.heap.size) (he : Els w g (m : Int) f n) (hf : ∀ i, El (m : Int) (f i)) (hn : n ≤ 1000) :
    Calls Try.prog 31 #[polyE (m : Int) (.slice (some ⟨g, 0, none⟩) n cap)] w fun e w' => ∃ g', e = .returned (.agg (VB (m : Int) (oc (tabF m f n) m) (.slice (some ⟨g', 0, none⟩) m m))) ∧ w.heap.size ≤ g' ∧ g' < w'.heap.size ∧ Els w' g' (m : Int) (tabF m f n) m ∧ Below w.heap.size w w' := by
  have hq := isSz_le (m : Int) h
  have HT := Lib.hid (fun w' (hb : Below w.heap.size w w') => tableM m g n cap f w' h (by have := hb.size; omega) (he.below hb hg) (fun i _ => hf i) hn)
  have HTE := Lib.hid (fun i (hi : i < m) => tab_el (k := n) h hf i hi)
  have HC := Lib.hid (fun g2 w' (hg2 : g2 < w'.heap.size) (he2 : Els w' g2 (m : Int) (tabF m f n) m) => countsInE m g2 m m (tabF m f n) w' h hg2 he2 (fun i hi => HTE.out i hi) (by omega))
  clear h he hf HTE
  generalize tabF (m : Int) f n = t at *
  go_enter Try.func31, Try.ntmps31
  go_wp2_with fail
  refine (HT.out _ (by (repeat' (first | (with_reducible assumption) | (with_reducible exact Below.refl _ _) | (with_reducible refine below_drewN ?_ _) | (with_reducible refine Below.drew ?_) | (with_reducible refine Below.alloc ?_ ?_ _) | (with_reducible refine Below.setCell ?_ ?_ _) | (with_reducible refine Below.trans ?_ (Below.mono (by assumption) ?_)) | (with_reducible exact Nat.le_refl _) | (with_reducible assumption) | omega | (simp; omega) | (simp; done))))).mono ?_
  rintro e w1 ⟨g1, rfl, hg1, hk1, he1, hb1⟩
  have hgl1 := hk1.lt
  have HE1 := Lib.hid he1
  clear hk1 he1
  have HTW := Lib.hid (two w (pblk (m : Int) (.slice (some ⟨g, 0, none⟩) n cap)) zvtblk)
  have l1 : w.heap.size + 1 < w1.heap.size := by have := hb1.size; simp at this; omega
  obtain ⟨x0, x1, x2, x3, _⟩ := cells4 ((hb1.block w.heap.size (by simp; omega)).trans HTW.out.1)
  obtain ⟨hc1, hf1⟩ := bcell hb1; have hz1 := hb1.size; (try simp at hz1); have HB1 := Lib.hid hb1; clear hb1
  simp at hg1
  go_wp2_with fail
  refine (HC.out g1 _ hgl1 HE1.out).mono ?_
  rintro e w2 ⟨rfl, hb2⟩
  have HZ2 : Hid (w2.heap[w.heap.size + 1]? = some (.cells #[.int .i64 0, .int .i64 0, .int .i64 0, .int .i64 0, .int .i64 0, .int .i64 0, .int .i64 0, .int .i64 0, .int .i64 0, .int .i64 0, .int .i64 0, .int .i64 0, .int .i64 0, .int .i64 0, .int .i64 0, .int .i64 0, .int .i64 0, .int .i64 0, .int .i64 0, .slice none 0 0] 51 (0, 0))) := Lib.hid ((hb2.block _ l1).trans (((HB1.out).block _ (by simp)).trans HTW.out.2))
  have HE2 := Lib.hid (HE1.out.below hb2 hgl1)
  obtain ⟨hc2, hf2⟩ := bcell hb2; have hz2 := hb2.size; (try simp at hz2); have HB2 := Lib.hid hb2; clear hb2
  have HI : Hid ((Try.prog.info? 51).map (·.size) = some (VB (m : Int) (oc t m) (.slice (some ⟨g1, 0, none⟩) m m)).size) := Lib.hid (by rw [VB_size]; kernel_rfl)
  have HV1 := Lib.hid (VB_one (m : Int) (oc t m) (some ⟨g1, 0, none⟩) m m)
  have hu := Try.underlying51
  go_wp2_with (first | (refine wpList_buildTo rfl 51 _ rfl _ rfl (VB (m : Int) (oc t m) (.slice (some ⟨g1, 0, none⟩) m m)) (by kernel_rfl) ?_) | (refine wpList_store_rowTo rfl 51 _ _ rfl rfl (w.heap.size + 1) (VB (m : Int) (oc t m) (.slice (some ⟨g1, 0, none⟩) m m)) rfl rfl 51 _ HZ2.out HI.out rfl HV1.out ?_) | fail)
  refine bodyPost_ret (results_cell_row rfl _ _ (w.heap.size + 1) 51 _ (0, 0) _ rfl (setRow_heap w2 (w.heap.size + 1) _ _ _ _ HZ2.out) hu rfl HI.out) rfl ?_
  have hb1 := HB1.out
  have hb2 := HB2.out
  refine ⟨g1, rfl, by omega, ?_, HE2.out.same (setRow_other _ _ _ _ (by omega)), below_setRow (by (repeat' (first | (with_reducible assumption) | (with_reducible exact Below.refl _ _) | (with_reducible refine below_drewN ?_ _) | (with_reducible refine Below.drew ?_) | (with_reducible refine Below.alloc ?_ ?_ _) | (with_reducible refine Below.setCell ?_ ?_ _) | (with_reducible refine Below.trans ?_ (Below.mono (by assumption) ?_)) | (with_reducible exact Nat.le_refl _) | (with_reducible assumption) | omega | (simp; omega) | (simp; done)))) (by omega) _⟩
  simp [World.setRow]
  omega
end Go.Proofs.Ytgndlpdcebmgmac
