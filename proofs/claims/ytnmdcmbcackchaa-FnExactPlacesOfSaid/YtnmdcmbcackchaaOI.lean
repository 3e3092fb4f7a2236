/- impl.validTable, by contracts. -/
import Derived.Test.YtnmdcmbcackchaaOG
namespace Go.Proofs.Ytnmdcmbcackchaa
open Go.RowKit
/-- The cells of no table. -/
def VZ : Array Value := #[.int .i64 0, .int .i64 0, .int .i64 0, .int .i64 0, .int .i64 0, .int .i64 0, .int .i64 0, .int .i64 0, .int .i64 0, .int .i64 0, .int .i64 0, .int .i64 0, .int .i64 0, .int .i64 0, .int .i64 0, .int .i64 0, .int .i64 0, .int .i64 0, .int .i64 0, .slice none 0 0]
theorem VZ_size : VZ.size = 20 := rfl
theorem VZ_one : VZ.all (·.oneCell') = true := by simp [VZ, Value.oneCell']
/-- The table of a list's polynomial. -/
abbrev tabl' (m : Nat) (l : List Int) : Nat → Int := tabF (m : Int) (fun i => l.getD i 0) l.length
theorem results_row_and {P : Program} {fn : Func} {p s : Tmp} {ty : TypeId} (h : fn.results = #[.cell p ty, .tmp s]) (tmps : Array Value) (w : World) (g : Nat) (cs : Array Value) (u : Value)
    (hp : tmps.getD p undef = .pointer (some ⟨g, 0, none⟩)) (hs : tmps.getD s undef = u) (hl : (loadVar ty ⟨g, 0, none⟩).run P w = .ok (.agg cs) w) :
    (results fn tmps).run P w = .ok (.tuple #[.agg cs, u]) w := by
  have hp' : tmps[p]?.getD undef = .pointer (some ⟨g, 0, none⟩) := by simpa using hp
  have hs' : tmps[s]?.getD undef = u := by simpa using hs
  simp [results, h, hp', hs', asAddr, hl]
set_option maxRecDepth 100000 in
set_option maxHeartbeats 4000000 in
theorem validTable_yes (m : Nat) (v : Value) (l : List Int) (w : World) (h : isSz (m : Int) = true) (hv : Sl w v l) (hg : good (m : Int) l = true) :
    Calls Try.prog 40 #[.int .i64 m, v] w fun e w' => ∃ g, e = .returned (.tuple #[.agg (VB (m : Int) (oc (tabl' m l) m) (.slice (some ⟨g, 0, none⟩) m m)), .bool true]) ∧ w.heap.size ≤ g ∧ g < w'.heap.size ∧ Els w' g (m : Int) (tabl' m l) m ∧ Below w.heap.size w w' := by
  have hq := isSz_le (m : Int) h
  obtain ⟨hlen, _⟩ := good_parts hg
  have hae := all_el h (good_parts hg).2
  have HP := Lib.hid (fun w' (hb : Below w.heap.size w w') => validPoly_yes (m : Int) v l w' h (hv.below hb (Nat.le_refl _)) hg)
  have HT := Lib.hid (fun g w' (hgl : g < w'.heap.size) (he : Els w' g (m : Int) (fun i => l.getD i 0) l.length) => valueTableE m g l.length l.length (fun i => l.getD i 0) w' h hgl he hae (by omega))
  have hu := Try.underlying46
  unfold tabl'
  clear h hv hg hae
  generalize tabF (m : Int) (fun i => l.getD i 0) l.length = t at *
  generalize (fun i => l.getD i 0) = f at *
  generalize l.length = n at *
  have hi : ∀ a k, (Try.prog.info? 46).map (·.size) = some (VB (m : Int) (oc t m) (.slice a m k)).size := fun a k => by rw [VB_size]; kernel_rfl
  have HONE := Lib.hid (fun a k => VB_one (m : Int) (oc t m) a m k)
  have HSZ := Lib.hid (fun a k => VB_size (m : Int) (oc t m) (.slice a m k))
  go_enter Try.func40, Try.ntmps40
  go_wp2_with fail
  refine (HP.out _ (by (repeat' (first | (with_reducible assumption) | (with_reducible exact Below.refl _ _) | (with_reducible refine below_drewN ?_ _) | (with_reducible refine Below.drew ?_) | (with_reducible refine Below.alloc ?_ ?_ _) | (with_reducible refine Below.setCell ?_ ?_ _) | (with_reducible refine Below.trans ?_ (Below.mono (by assumption) ?_)) | (with_reducible exact Nat.le_refl _) | (with_reducible assumption) | omega | (simp; omega) | (simp; done))))).mono ?_
  rintro e w1 ⟨g, rfl, hg1, hk1, he1, hb1⟩
  have hgl := hk1.lt
  have HE1 := Lib.hid he1
  have HZ1 : Hid (w1.heap[w.heap.size]? = some zvtblk) := Lib.hid ((hb1.block _ (by simp)).trans (heap_alloc_new w zvtblk))
  have l1 : w.heap.size < w1.heap.size := by have := hb1.size; simp at this; omega
  clear hk1 he1
  obtain ⟨hc1, hf1⟩ := bcell hb1; have hz1 := hb1.size; (try simp at hz1); have HB1 := Lib.hid hb1; clear hb1
  simp at hg1
  go_wp2_with fail
  refine (HT.out g _ (by simp; omega) (HE1.out.below (B := w1.heap.size) (by (repeat' (first | (with_reducible assumption) | (with_reducible exact Below.refl _ _) | (with_reducible refine below_drewN ?_ _) | (with_reducible refine Below.drew ?_) | (with_reducible refine Below.alloc ?_ ?_ _) | (with_reducible refine Below.setCell ?_ ?_ _) | (with_reducible refine Below.trans ?_ (Below.mono (by assumption) ?_)) | (with_reducible exact Nat.le_refl _) | (with_reducible assumption) | omega | (simp; omega) | (simp; done)))) hgl)).mono ?_
  rintro e w2 ⟨g2, rfl, hg2, hgl2, he2, hb2⟩
  have HE2 := Lib.hid he2
  have hbz : Below w1.heap.size w1 w2 := by (repeat' (first | (with_reducible assumption) | (with_reducible exact Below.refl _ _) | (with_reducible refine below_drewN ?_ _) | (with_reducible refine Below.drew ?_) | (with_reducible refine Below.alloc ?_ ?_ _) | (with_reducible refine Below.setCell ?_ ?_ _) | (with_reducible refine Below.trans ?_ (Below.mono (by assumption) ?_)) | (with_reducible exact Nat.le_refl _) | (with_reducible assumption) | omega | (simp; omega) | (simp; done)))
  have HZ2 : Hid (w2.heap[w.heap.size]? = some zvtblk) := Lib.hid ((hbz.block _ l1).trans HZ1.out)
  have HBZ : Hid (Below w.heap.size w w2) := Lib.hid (by have hb1 := HB1.out; (repeat' (first | (with_reducible assumption) | (with_reducible exact Below.refl _ _) | (with_reducible refine below_drewN ?_ _) | (with_reducible refine Below.drew ?_) | (with_reducible refine Below.alloc ?_ ?_ _) | (with_reducible refine Below.setCell ?_ ?_ _) | (with_reducible refine Below.trans ?_ (Below.mono (by assumption) ?_)) | (with_reducible exact Nat.le_refl _) | (with_reducible assumption) | omega | (simp; omega) | (simp; done))))
  have hz2 := hbz.size
  clear hb2 hbz he2
  simp at hg2
  have hone := HONE.out (some ⟨g2, 0, none⟩) m
  have hii := hi (some ⟨g2, 0, none⟩) m
  have hss := HSZ.out (some ⟨g2, 0, none⟩) m
  obtain ⟨A, hA⟩ : ∃ A, VB (m : Int) (oc t m) (.slice (some ⟨g2, 0, none⟩) m m) = A := ⟨_, rfl⟩
  rw [hA] at hone hii hss ⊢
  have HA := Lib.hid hA
  clear hA
  go_wp2_with (first | (refine wpList_store_rowTo rfl 46 _ _ rfl rfl w.heap.size A rfl rfl 46 _ HZ2.out hii hss.symm hone ?_) | fail)
  have hlv := run_loadVar_row (P := Try.prog) (w2.setRow w.heap.size A) w.heap.size 46 46 A (0, 0) _ (setRow_heap w2 w.heap.size _ A _ _ HZ2.out) hu rfl hii
  refine bodyPost_ret (v := .tuple #[.agg A, .bool true]) (results_row_and rfl _ _ w.heap.size _ _ rfl rfl hlv) rfl ?_
  refine ⟨g2, by rw [HA.out], by omega, ?_, HE2.out.same (setRow_other _ _ _ _ (by omega)), below_setRow HBZ.out (Nat.le_refl _) _⟩
  simp [World.setRow]
  omega
set_option maxRecDepth 100000 in
set_option maxHeartbeats 4000000 in
theorem validTable_no (q : Int) (v : Value) (l : List Int) (w : World) (hv : Sl w v l) (hl : l.length ≤ 1048576) (hg : (isSz q && good q l) = false) :
    Calls Try.prog 40 #[.int .i64 q, v] w fun e w' => e = .returned (.tuple #[.agg VZ, .bool false]) ∧ Below w.heap.size w w' := by
  have HP := Lib.hid (fun w' (hb : Below w.heap.size w w') => validPoly_no q v l w' (hv.below hb (Nat.le_refl _)) hl hg)
  have hu := Try.underlying46
  have hi : (Try.prog.info? 46).map (·.size) = some VZ.size := by rw [VZ_size]; kernel_rfl
  have hone := VZ_one
  clear hv hg hl
  go_enter Try.func40, Try.ntmps40
  go_wp2_with fail
  refine (HP.out _ (by (repeat' (first | (with_reducible assumption) | (with_reducible exact Below.refl _ _) | (with_reducible refine below_drewN ?_ _) | (with_reducible refine Below.drew ?_) | (with_reducible refine Below.alloc ?_ ?_ _) | (with_reducible refine Below.setCell ?_ ?_ _) | (with_reducible refine Below.trans ?_ (Below.mono (by assumption) ?_)) | (with_reducible exact Nat.le_refl _) | (with_reducible assumption) | omega | (simp; omega) | (simp; done))))).mono ?_
  rintro e w1 ⟨rfl, hb1⟩
  have HZ1 : Hid (w1.heap[w.heap.size]? = some zvtblk) := Lib.hid ((hb1.block _ (by simp)).trans (heap_alloc_new w zvtblk))
  have l1 : w.heap.size < w1.heap.size := by have := hb1.size; simp at this; omega
  have HBZ : Hid (Below w.heap.size w w1) := Lib.hid (by (repeat' (first | (with_reducible assumption) | (with_reducible exact Below.refl _ _) | (with_reducible refine below_drewN ?_ _) | (with_reducible refine Below.drew ?_) | (with_reducible refine Below.alloc ?_ ?_ _) | (with_reducible refine Below.setCell ?_ ?_ _) | (with_reducible refine Below.trans ?_ (Below.mono (by assumption) ?_)) | (with_reducible exact Nat.le_refl _) | (with_reducible assumption) | omega | (simp; omega) | (simp; done))))
  clear hb1
  have HW2 : Hid (∀ o, (w1.alloc o).heap[w.heap.size]? = some zvtblk) := Lib.hid fun o => (Below.heap_alloc w1 o _ l1).trans HZ1.out
  go_wp2_with (first | (refine wpList_buildTo rfl 46 _ rfl _ rfl VZ (by kernel_rfl) ?_) | (refine wpList_store_rowTo rfl 46 _ _ rfl rfl w.heap.size VZ rfl rfl 46 _ (HW2.out _) hi rfl hone ?_) | fail)
  have hlv : ∀ o, (loadVar 46 ⟨w.heap.size, 0, none⟩).run Try.prog ((w1.alloc o).setRow w.heap.size VZ) = .ok (.agg VZ) ((w1.alloc o).setRow w.heap.size VZ) := fun o => run_loadVar_row (P := Try.prog) ((w1.alloc o).setRow w.heap.size VZ) w.heap.size 46 46 VZ (0, 0) _ (setRow_heap (w1.alloc o) w.heap.size _ VZ _ _ (HW2.out o)) hu rfl hi
  refine bodyPost_ret (v := .tuple #[.agg VZ, .bool false]) (results_row_and rfl _ _ w.heap.size _ _ rfl rfl (hlv _)) rfl ?_
  exact ⟨rfl, below_setRow (by have hbz := HBZ.out; (repeat' (first | (with_reducible assumption) | (with_reducible exact Below.refl _ _) | (with_reducible refine below_drewN ?_ _) | (with_reducible refine Below.drew ?_) | (with_reducible refine Below.alloc ?_ ?_ _) | (with_reducible refine Below.setCell ?_ ?_ _) | (with_reducible refine Below.trans ?_ (Below.mono (by assumption) ?_)) | (with_reducible exact Nat.le_refl _) | (with_reducible assumption) | omega | (simp; omega) | (simp; done)))) (Nat.le_refl _) _⟩
end Go.Proofs.Ytnmdcmbcackchaa
