/- Values, their places, and moments: the exported functions of the program, by contracts. -/
import Derived.Test.YtnmdcmbcackchaaOH
import Derived.Test.YtnmdcmbcackchaaOI
namespace Go.Proofs.Ytnmdcmbcackchaa
open Go.RowKit
/-- The counts as read out of a table. -/
def VAL (q : Int) (c : Nat → Int) : List Value := (VA q c).toList
theorem VAL_arr (q : Int) (c : Nat → Int) : (VAL q c).toArray = VA q c := by simp [VAL]
theorem VAL_len (q : Int) (c : Nat → Int) : (VAL q c).length = 19 := rfl
theorem tabl_el {m : Nat} {l : List Int} (h : isSz (m : Int) = true) (hg : good (m : Int) l = true) (i : Nat) (hi : i < m) : El (m : Int) (tabl' m l i) := tab_el (k := l.length) h (all_el h (good_parts hg).2) i hi
set_option maxRecDepth 100000 in
set_option maxHeartbeats 4000000 in
theorem impl_ValuesOf_no (q : Int) (v : Value) (l : List Int) (w : World) (hv : Sl w v l) (hl : l.length ≤ 1048576) (hg : (isSz q && good q l) = false) :
    Calls Try.prog 15 #[.int .i64 q, v] w fun e w' => e = .returned (.tuple #[.slice none 0 0, .bool false]) ∧ Below w.heap.size w w' := by
  have HP := Lib.hid (validTable_no q v l w hv hl hg)
  have hi : (Try.prog.info? 46).map (·.size) = some VZ.size := by rw [VZ_size]; kernel_rfl
  have hone := VZ_one
  clear hv hg hl
  go_enter Try.func15, Try.ntmps15
  go_wp2_with fail
  refine HP.out.mono ?_
  rintro e w1 ⟨rfl, hb1⟩
  have HB1 := Lib.hid hb1
  have hnew := heap_alloc_new w1 zvtblk
  clear hb1
  go_wp2_with (first | (refine wpList_store_rowTo rfl 46 _ _ rfl rfl w1.heap.size VZ rfl rfl 46 _ hnew hi rfl hone ?_) | fail)
  go_ret2
  have hb1 := HB1.out
  exact ⟨rfl, below_setRow (hb1.alloc hb1.size _) hb1.size _⟩
set_option maxRecDepth 100000 in
set_option maxHeartbeats 4000000 in
theorem impl_ValuesOf_yes (m : Nat) (v : Value) (l : List Int) (w : World) (h : isSz (m : Int) = true) (hv : Sl w v l) (hg : good (m : Int) l = true) :
    Calls Try.prog 15 #[.int .i64 m, v] w fun e w' => ∃ v', e = .returned (.tuple #[v', .bool true]) ∧ Row w' w.heap.size v' (wh (mt (tabl' m l) m) m) ∧ Below w.heap.size w w' := by
  have hq := isSz_le (m : Int) h
  have HP := Lib.hid (validTable_yes m v l w h hv hg)
  have HTE := tabl_el h hg
  unfold tabl' at HP HTE ⊢
  generalize tabF (m : Int) (fun i => l.getD i 0) l.length = t at *
  have HC := Lib.hid (fun w => listE m (oc t m) w h)
  rw [← VAL_arr] at HC
  have HVR : Hid (∀ (W : World) (b : Nat) (u : Value), W.heap[b]? = some (.cells (VB (m : Int) (oc t m) u) 46 (0, 0)) → W.rangeAt b 0 (VAL (m : Int) (oc t m))) := Lib.hid fun W b u hh => VB_range hh
  have hu43 := Try.underlying43
  have hi43 : (Try.prog.info? 43).map (·.size) = some (VAL (m : Int) (oc t m)).length := by rw [VAL_len]; kernel_rfl
  generalize VAL (m : Int) (oc t m) = LL at *
  have HIP : Hid (ps (oc t m) = mt t m) := Lib.hid rfl
  rw [HIP.out] at HC
  clear HIP
  have hi : ∀ a k, (Try.prog.info? 46).map (·.size) = some (VB (m : Int) (oc t m) (.slice a m k)).size := fun a k => by rw [VB_size]; kernel_rfl
  have HONE := Lib.hid (fun a k => VB_one (m : Int) (oc t m) a m k)
  have HSZ := Lib.hid (fun a k => VB_size (m : Int) (oc t m) (.slice a m k))
  clear h hv hg HTE
  go_enter Try.func15, Try.ntmps15
  go_wp2_with fail
  refine HP.out.mono ?_
  rintro e w1 ⟨g, rfl, hg1, hgl, he1, hb1⟩
  have HB1 := Lib.hid hb1
  have HE1 := Lib.hid he1
  have hnew := heap_alloc_new w1 zvtblk
  clear hb1 he1
  have hone := HONE.out (some ⟨g, 0, none⟩) m
  have hii := hi (some ⟨g, 0, none⟩) m
  have hss := HSZ.out (some ⟨g, 0, none⟩) m
  have hvr := HVR.out ((w1.alloc zvtblk).setRow w1.heap.size (VB (m : Int) (oc t m) (.slice (some ⟨g, 0, none⟩) m m))) w1.heap.size (.slice (some ⟨g, 0, none⟩) m m) (setRow_heap _ _ _ _ _ _ hnew)
  generalize VB (m : Int) (oc t m) (.slice (some ⟨g, 0, none⟩) m m) = A at *
  have HBS : Hid (Below w.heap.size w ((w1.alloc zvtblk).setRow w1.heap.size A)) := Lib.hid (by have hb1 := HB1.out; exact below_setRow (hb1.alloc hb1.size _) hb1.size _)
  go_wp2_with (first | (refine wpList_store_rowTo rfl 46 _ _ rfl rfl w1.heap.size A rfl rfl 46 _ hnew hii hss.symm hone ?_) | refine wpList_load_mid rfl 43 _ rfl w1.heap.size 0 rfl LL _ hvr hu43 rfl hi43 ?_ | fail)
  refine (HC.out _).mono ?_
  rintro e w2 ⟨v2, rfl, hr2, hb2⟩
  have HR2 := Lib.hid hr2
  clear hr2
  have HB2 : Hid (Below w.heap.size w w2) := Lib.hid (HBS.out.trans (hb2.mono HBS.out.size))
  have HZ := Lib.hid HBS.out.size
  clear hb2
  go_wp2
  go_ret2
  exact ⟨_, rfl, HR2.out.mono HZ.out, HB2.out⟩
set_option maxRecDepth 100000 in
set_option maxHeartbeats 4000000 in
theorem impl_CountValues_no (q : Int) (v : Value) (l : List Int) (w : World) (hv : Sl w v l) (hl : l.length ≤ 1048576) (hg : (isSz q && good q l) = false) :
    Calls Try.prog 20 #[.int .i64 q, v] w fun e w' => e = .returned (.tuple #[.int .i64 0, .bool false]) ∧ Below w.heap.size w w' := by
  have HP := Lib.hid (validTable_no q v l w hv hl hg)
  have hi : (Try.prog.info? 46).map (·.size) = some VZ.size := by rw [VZ_size]; kernel_rfl
  have hone := VZ_one
  clear hv hg hl
  go_enter Try.func20, Try.ntmps20
  go_wp2_with fail
  refine HP.out.mono ?_
  rintro e w1 ⟨rfl, hb1⟩
  have HB1 := Lib.hid hb1
  have hnew := heap_alloc_new w1 zvtblk
  clear hb1
  go_wp2_with (first | (refine wpList_store_rowTo rfl 46 _ _ rfl rfl w1.heap.size VZ rfl rfl 46 _ hnew hi rfl hone ?_) | fail)
  go_ret2
  have hb1 := HB1.out
  exact ⟨rfl, below_setRow (hb1.alloc hb1.size _) hb1.size _⟩
set_option maxRecDepth 100000 in
set_option maxHeartbeats 4000000 in
theorem impl_CountValues_yes (m : Nat) (v : Value) (l : List Int) (w : World) (h : isSz (m : Int) = true) (hv : Sl w v l) (hg : good (m : Int) l = true) :
    Calls Try.prog 20 #[.int .i64 m, v] w fun e w' => e = .returned (.tuple #[.int .i64 (wh (mt (tabl' m l) m) m).length, .bool true]) ∧ Below w.heap.size w w' := by
  have hq := isSz_le (m : Int) h
  have HP := Lib.hid (validTable_yes m v l w h hv hg)
  have HTE := tabl_el h hg
  unfold tabl' at HP HTE ⊢
  generalize tabF (m : Int) (fun i => l.getD i 0) l.length = t at *
  have HC := Lib.hid (fun w => differentE m (oc t m) w h)
  rw [← VAL_arr] at HC
  have HVR : Hid (∀ (W : World) (b : Nat) (u : Value), W.heap[b]? = some (.cells (VB (m : Int) (oc t m) u) 46 (0, 0)) → W.rangeAt b 0 (VAL (m : Int) (oc t m))) := Lib.hid fun W b u hh => VB_range hh
  have hu43 := Try.underlying43
  have hi43 : (Try.prog.info? 43).map (·.size) = some (VAL (m : Int) (oc t m)).length := by rw [VAL_len]; kernel_rfl
  generalize VAL (m : Int) (oc t m) = LL at *
  have HIP : Hid (ps (oc t m) = mt t m) := Lib.hid rfl
  rw [HIP.out] at HC
  clear HIP
  have hi : ∀ a k, (Try.prog.info? 46).map (·.size) = some (VB (m : Int) (oc t m) (.slice a m k)).size := fun a k => by rw [VB_size]; kernel_rfl
  have HONE := Lib.hid (fun a k => VB_one (m : Int) (oc t m) a m k)
  have HSZ := Lib.hid (fun a k => VB_size (m : Int) (oc t m) (.slice a m k))
  clear h hv hg HTE
  go_enter Try.func20, Try.ntmps20
  go_wp2_with fail
  refine HP.out.mono ?_
  rintro e w1 ⟨g, rfl, hg1, hgl, he1, hb1⟩
  have HB1 := Lib.hid hb1
  have HE1 := Lib.hid he1
  have hnew := heap_alloc_new w1 zvtblk
  clear hb1 he1
  have hone := HONE.out (some ⟨g, 0, none⟩) m
  have hii := hi (some ⟨g, 0, none⟩) m
  have hss := HSZ.out (some ⟨g, 0, none⟩) m
  have hvr := HVR.out ((w1.alloc zvtblk).setRow w1.heap.size (VB (m : Int) (oc t m) (.slice (some ⟨g, 0, none⟩) m m))) w1.heap.size (.slice (some ⟨g, 0, none⟩) m m) (setRow_heap _ _ _ _ _ _ hnew)
  generalize VB (m : Int) (oc t m) (.slice (some ⟨g, 0, none⟩) m m) = A at *
  have HBS : Hid (Below w.heap.size w ((w1.alloc zvtblk).setRow w1.heap.size A)) := Lib.hid (by have hb1 := HB1.out; exact below_setRow (hb1.alloc hb1.size _) hb1.size _)
  go_wp2_with (first | (refine wpList_store_rowTo rfl 46 _ _ rfl rfl w1.heap.size A rfl rfl 46 _ hnew hii hss.symm hone ?_) | refine wpList_load_mid rfl 43 _ rfl w1.heap.size 0 rfl LL _ hvr hu43 rfl hi43 ?_ | fail)
  refine (HC.out _).mono ?_
  rintro e w2 ⟨rfl, hb2⟩
  have HB2 : Hid (Below w.heap.size w w2) := Lib.hid (HBS.out.trans (hb2.mono HBS.out.size))
  have HZ := Lib.hid HBS.out.size
  clear hb2
  go_wp2
  go_ret2
  exact ⟨rfl, HB2.out⟩
set_option maxRecDepth 100000 in
set_option maxHeartbeats 4000000 in
theorem impl_PlaceCounts_no (q : Int) (v : Value) (l : List Int) (w : World) (hv : Sl w v l) (hl : l.length ≤ 1048576) (hg : (isSz q && good q l) = false) :
    Calls Try.prog 24 #[.int .i64 q, v] w fun e w' => e = .returned (.tuple #[.slice none 0 0, .bool false]) ∧ Below w.heap.size w w' := by
  have HP := Lib.hid (validTable_no q v l w hv hl hg)
  have hi : (Try.prog.info? 46).map (·.size) = some VZ.size := by rw [VZ_size]; kernel_rfl
  have hone := VZ_one
  clear hv hg hl
  go_enter Try.func24, Try.ntmps24
  go_wp2_with fail
  refine HP.out.mono ?_
  rintro e w1 ⟨rfl, hb1⟩
  have HB1 := Lib.hid hb1
  have hnew := heap_alloc_new w1 zvtblk
  clear hb1
  go_wp2_with (first | (refine wpList_store_rowTo rfl 46 _ _ rfl rfl w1.heap.size VZ rfl rfl 46 _ hnew hi rfl hone ?_) | fail)
  go_ret2
  have hb1 := HB1.out
  exact ⟨rfl, below_setRow (hb1.alloc hb1.size _) hb1.size _⟩
set_option maxRecDepth 100000 in
set_option maxHeartbeats 4000000 in
theorem impl_PlaceCounts_yes (m : Nat) (v : Value) (l : List Int) (w : World) (h : isSz (m : Int) = true) (hv : Sl w v l) (hg : good (m : Int) l = true) :
    Calls Try.prog 24 #[.int .i64 m, v] w fun e w' => ∃ v', e = .returned (.tuple #[v', .bool true]) ∧ Row w' w.heap.size v' (fl (oc (tabl' m l) m) m) ∧ Below w.heap.size w w' := by
  have hq := isSz_le (m : Int) h
  have HP := Lib.hid (validTable_yes m v l w h hv hg)
  have HTE := tabl_el h hg
  unfold tabl' at HP HTE ⊢
  generalize tabF (m : Int) (fun i => l.getD i 0) l.length = t at *
  have HC := Lib.hid (fun w => placeCountsE m (oc t m) w (by omega))
  rw [← VAL_arr] at HC
  have HVR : Hid (∀ (W : World) (b : Nat) (u : Value), W.heap[b]? = some (.cells (VB (m : Int) (oc t m) u) 46 (0, 0)) → W.rangeAt b 0 (VAL (m : Int) (oc t m))) := Lib.hid fun W b u hh => VB_range hh
  have hu43 := Try.underlying43
  have hi43 : (Try.prog.info? 43).map (·.size) = some (VAL (m : Int) (oc t m)).length := by rw [VAL_len]; kernel_rfl
  generalize VAL (m : Int) (oc t m) = LL at *
  have hi : ∀ a k, (Try.prog.info? 46).map (·.size) = some (VB (m : Int) (oc t m) (.slice a m k)).size := fun a k => by rw [VB_size]; kernel_rfl
  have HONE := Lib.hid (fun a k => VB_one (m : Int) (oc t m) a m k)
  have HSZ := Lib.hid (fun a k => VB_size (m : Int) (oc t m) (.slice a m k))
  clear h hv hg HTE
  go_enter Try.func24, Try.ntmps24
  go_wp2_with fail
  refine HP.out.mono ?_
  rintro e w1 ⟨g, rfl, hg1, hgl, he1, hb1⟩
  have HB1 := Lib.hid hb1
  have HE1 := Lib.hid he1
  have hnew := heap_alloc_new w1 zvtblk
  clear hb1 he1
  have hone := HONE.out (some ⟨g, 0, none⟩) m
  have hii := hi (some ⟨g, 0, none⟩) m
  have hss := HSZ.out (some ⟨g, 0, none⟩) m
  have hvr := HVR.out ((w1.alloc zvtblk).setRow w1.heap.size (VB (m : Int) (oc t m) (.slice (some ⟨g, 0, none⟩) m m))) w1.heap.size (.slice (some ⟨g, 0, none⟩) m m) (setRow_heap _ _ _ _ _ _ hnew)
  generalize VB (m : Int) (oc t m) (.slice (some ⟨g, 0, none⟩) m m) = A at *
  have HBS : Hid (Below w.heap.size w ((w1.alloc zvtblk).setRow w1.heap.size A)) := Lib.hid (by have hb1 := HB1.out; exact below_setRow (hb1.alloc hb1.size _) hb1.size _)
  go_wp2_with (first | (refine wpList_store_rowTo rfl 46 _ _ rfl rfl w1.heap.size A rfl rfl 46 _ hnew hii hss.symm hone ?_) | refine wpList_load_mid rfl 43 _ rfl w1.heap.size 0 rfl LL _ hvr hu43 rfl hi43 ?_ | fail)
  refine (HC.out _).mono ?_
  rintro e w2 ⟨v2, rfl, hr2, hb2⟩
  have HR2 := Lib.hid hr2
  clear hr2
  have HB2 : Hid (Below w.heap.size w w2) := Lib.hid (HBS.out.trans (hb2.mono HBS.out.size))
  have HZ := Lib.hid HBS.out.size
  clear hb2
  go_wp2
  go_ret2
  exact ⟨_, rfl, HR2.out.mono HZ.out, HB2.out⟩
set_option maxRecDepth 100000 in
set_option maxHeartbeats 4000000 in
theorem impl_PairsAlike_no (q : Int) (v : Value) (l : List Int) (w : World) (hv : Sl w v l) (hl : l.length ≤ 1048576) (hg : (isSz q && good q l) = false) :
    Calls Try.prog 26 #[.int .i64 q, v] w fun e w' => e = .returned (.tuple #[.int .i64 0, .bool false]) ∧ Below w.heap.size w w' := by
  have HP := Lib.hid (validTable_no q v l w hv hl hg)
  have hi : (Try.prog.info? 46).map (·.size) = some VZ.size := by rw [VZ_size]; kernel_rfl
  have hone := VZ_one
  clear hv hg hl
  go_enter Try.func26, Try.ntmps26
  go_wp2_with fail
  refine HP.out.mono ?_
  rintro e w1 ⟨rfl, hb1⟩
  have HB1 := Lib.hid hb1
  have hnew := heap_alloc_new w1 zvtblk
  clear hb1
  go_wp2_with (first | (refine wpList_store_rowTo rfl 46 _ _ rfl rfl w1.heap.size VZ rfl rfl 46 _ hnew hi rfl hone ?_) | fail)
  go_ret2
  have hb1 := HB1.out
  exact ⟨rfl, below_setRow (hb1.alloc hb1.size _) hb1.size _⟩
set_option maxRecDepth 100000 in
set_option maxHeartbeats 4000000 in
theorem impl_PairsAlike_yes (m : Nat) (v : Value) (l : List Int) (w : World) (h : isSz (m : Int) = true) (hv : Sl w v l) (hg : good (m : Int) l = true) :
    Calls Try.prog 26 #[.int .i64 m, v] w fun e w' => e = .returned (.tuple #[.int .i64 (pa (oc (tabl' m l) m) 16), .bool true]) ∧ Below w.heap.size w w' := by
  have hq := isSz_le (m : Int) h
  have HP := Lib.hid (validTable_yes m v l w h hv hg)
  have HTE := tabl_el h hg
  unfold tabl' at HP HTE ⊢
  generalize tabF (m : Int) (fun i => l.getD i 0) l.length = t at *
  have HC := Lib.hid (fun w => pairsAlikeE m (oc t m) w (fun y => by have := oc_bd t m y; omega))
  rw [← VAL_arr] at HC
  have HVR : Hid (∀ (W : World) (b : Nat) (u : Value), W.heap[b]? = some (.cells (VB (m : Int) (oc t m) u) 46 (0, 0)) → W.rangeAt b 0 (VAL (m : Int) (oc t m))) := Lib.hid fun W b u hh => VB_range hh
  have hu43 := Try.underlying43
  have hi43 : (Try.prog.info? 43).map (·.size) = some (VAL (m : Int) (oc t m)).length := by rw [VAL_len]; kernel_rfl
  generalize VAL (m : Int) (oc t m) = LL at *
  have hi : ∀ a k, (Try.prog.info? 46).map (·.size) = some (VB (m : Int) (oc t m) (.slice a m k)).size := fun a k => by rw [VB_size]; kernel_rfl
  have HONE := Lib.hid (fun a k => VB_one (m : Int) (oc t m) a m k)
  have HSZ := Lib.hid (fun a k => VB_size (m : Int) (oc t m) (.slice a m k))
  clear h hv hg HTE
  go_enter Try.func26, Try.ntmps26
  go_wp2_with fail
  refine HP.out.mono ?_
  rintro e w1 ⟨g, rfl, hg1, hgl, he1, hb1⟩
  have HB1 := Lib.hid hb1
  have HE1 := Lib.hid he1
  have hnew := heap_alloc_new w1 zvtblk
  clear hb1 he1
  have hone := HONE.out (some ⟨g, 0, none⟩) m
  have hii := hi (some ⟨g, 0, none⟩) m
  have hss := HSZ.out (some ⟨g, 0, none⟩) m
  have hvr := HVR.out ((w1.alloc zvtblk).setRow w1.heap.size (VB (m : Int) (oc t m) (.slice (some ⟨g, 0, none⟩) m m))) w1.heap.size (.slice (some ⟨g, 0, none⟩) m m) (setRow_heap _ _ _ _ _ _ hnew)
  generalize VB (m : Int) (oc t m) (.slice (some ⟨g, 0, none⟩) m m) = A at *
  have HBS : Hid (Below w.heap.size w ((w1.alloc zvtblk).setRow w1.heap.size A)) := Lib.hid (by have hb1 := HB1.out; exact below_setRow (hb1.alloc hb1.size _) hb1.size _)
  go_wp2_with (first | (refine wpList_store_rowTo rfl 46 _ _ rfl rfl w1.heap.size A rfl rfl 46 _ hnew hii hss.symm hone ?_) | refine wpList_load_mid rfl 43 _ rfl w1.heap.size 0 rfl LL _ hvr hu43 rfl hi43 ?_ | fail)
  refine (HC.out _).mono ?_
  rintro e w2 ⟨rfl, hb2⟩
  have HB2 : Hid (Below w.heap.size w w2) := Lib.hid (HBS.out.trans (hb2.mono HBS.out.size))
  have HZ := Lib.hid HBS.out.size
  clear hb2
  go_wp2
  go_ret2
  exact ⟨rfl, HB2.out⟩
set_option maxRecDepth 100000 in
set_option maxHeartbeats 4000000 in
theorem impl_IsTwoToOne_no (q : Int) (v : Value) (l : List Int) (w : World) (hv : Sl w v l) (hl : l.length ≤ 1048576) (hg : (isSz q && good q l) = false) :
    Calls Try.prog 32 #[.int .i64 q, v] w fun e w' => e = .returned (.tuple #[.bool false, .bool false]) ∧ Below w.heap.size w w' := by
  have HP := Lib.hid (validTable_no q v l w hv hl hg)
  have hi : (Try.prog.info? 46).map (·.size) = some VZ.size := by rw [VZ_size]; kernel_rfl
  have hone := VZ_one
  clear hv hg hl
  go_enter Try.func32, Try.ntmps32
  go_wp2_with fail
  refine HP.out.mono ?_
  rintro e w1 ⟨rfl, hb1⟩
  have HB1 := Lib.hid hb1
  have hnew := heap_alloc_new w1 zvtblk
  clear hb1
  go_wp2_with (first | (refine wpList_store_rowTo rfl 46 _ _ rfl rfl w1.heap.size VZ rfl rfl 46 _ hnew hi rfl hone ?_) | fail)
  go_ret2
  have hb1 := HB1.out
  exact ⟨rfl, below_setRow (hb1.alloc hb1.size _) hb1.size _⟩
set_option maxRecDepth 100000 in
set_option maxHeartbeats 4000000 in
theorem impl_IsTwoToOne_yes (m : Nat) (v : Value) (l : List Int) (w : World) (h : isSz (m : Int) = true) (hv : Sl w v l) (hg : good (m : Int) l = true) :
    Calls Try.prog 32 #[.int .i64 m, v] w fun e w' => e = .returned (.tuple #[.bool (tw (oc (tabl' m l) m) 0 16 0), .bool true]) ∧ Below w.heap.size w w' := by
  have hq := isSz_le (m : Int) h
  have HP := Lib.hid (validTable_yes m v l w h hv hg)
  have HTE := tabl_el h hg
  unfold tabl' at HP HTE ⊢
  generalize tabF (m : Int) (fun i => l.getD i 0) l.length = t at *
  have HC := Lib.hid (fun w => twoToOneE m (oc t m) w (fun y => by have := oc_bd t m y; omega))
  rw [← VAL_arr] at HC
  have HVR : Hid (∀ (W : World) (b : Nat) (u : Value), W.heap[b]? = some (.cells (VB (m : Int) (oc t m) u) 46 (0, 0)) → W.rangeAt b 0 (VAL (m : Int) (oc t m))) := Lib.hid fun W b u hh => VB_range hh
  have hu43 := Try.underlying43
  have hi43 : (Try.prog.info? 43).map (·.size) = some (VAL (m : Int) (oc t m)).length := by rw [VAL_len]; kernel_rfl
  generalize VAL (m : Int) (oc t m) = LL at *
  have hi : ∀ a k, (Try.prog.info? 46).map (·.size) = some (VB (m : Int) (oc t m) (.slice a m k)).size := fun a k => by rw [VB_size]; kernel_rfl
  have HONE := Lib.hid (fun a k => VB_one (m : Int) (oc t m) a m k)
  have HSZ := Lib.hid (fun a k => VB_size (m : Int) (oc t m) (.slice a m k))
  clear h hv hg HTE
  go_enter Try.func32, Try.ntmps32
  go_wp2_with fail
  refine HP.out.mono ?_
  rintro e w1 ⟨g, rfl, hg1, hgl, he1, hb1⟩
  have HB1 := Lib.hid hb1
  have HE1 := Lib.hid he1
  have hnew := heap_alloc_new w1 zvtblk
  clear hb1 he1
  have hone := HONE.out (some ⟨g, 0, none⟩) m
  have hii := hi (some ⟨g, 0, none⟩) m
  have hss := HSZ.out (some ⟨g, 0, none⟩) m
  have hvr := HVR.out ((w1.alloc zvtblk).setRow w1.heap.size (VB (m : Int) (oc t m) (.slice (some ⟨g, 0, none⟩) m m))) w1.heap.size (.slice (some ⟨g, 0, none⟩) m m) (setRow_heap _ _ _ _ _ _ hnew)
  generalize VB (m : Int) (oc t m) (.slice (some ⟨g, 0, none⟩) m m) = A at *
  have HBS : Hid (Below w.heap.size w ((w1.alloc zvtblk).setRow w1.heap.size A)) := Lib.hid (by have hb1 := HB1.out; exact below_setRow (hb1.alloc hb1.size _) hb1.size _)
  go_wp2_with (first | (refine wpList_store_rowTo rfl 46 _ _ rfl rfl w1.heap.size A rfl rfl 46 _ hnew hii hss.symm hone ?_) | refine wpList_load_mid rfl 43 _ rfl w1.heap.size 0 rfl LL _ hvr hu43 rfl hi43 ?_ | fail)
  refine (HC.out _).mono ?_
  rintro e w2 ⟨rfl, hb2⟩
  have HB2 : Hid (Below w.heap.size w w2) := Lib.hid (HBS.out.trans (hb2.mono HBS.out.size))
  have HZ := Lib.hid HBS.out.size
  clear hb2
  go_wp2
  go_ret2
  exact ⟨rfl, HB2.out⟩
set_option maxRecDepth 100000 in
set_option maxHeartbeats 4000000 in
theorem impl_FirstMoment_no (q : Int) (v : Value) (l : List Int) (w : World) (hv : Sl w v l) (hl : l.length ≤ 1048576) (hg : (isSz q && good q l) = false) :
    Calls Try.prog 30 #[.int .i64 q, v] w fun e w' => e = .returned (.tuple #[.int .i64 0, .bool false]) ∧ Below w.heap.size w w' := by
  have HP := Lib.hid (validTable_no q v l w hv hl hg)
  have hi : (Try.prog.info? 46).map (·.size) = some VZ.size := by rw [VZ_size]; kernel_rfl
  have hone := VZ_one
  clear hv hg hl
  go_enter Try.func30, Try.ntmps30
  go_wp2_with fail
  refine HP.out.mono ?_
  rintro e w1 ⟨rfl, hb1⟩
  have HB1 := Lib.hid hb1
  have hnew := heap_alloc_new w1 zvtblk
  clear hb1
  go_wp2_with (first | (refine wpList_store_rowTo rfl 46 _ _ rfl rfl w1.heap.size VZ rfl rfl 46 _ hnew hi rfl hone ?_) | fail)
  go_ret2
  have hb1 := HB1.out
  exact ⟨rfl, below_setRow (hb1.alloc hb1.size _) hb1.size _⟩
set_option maxRecDepth 100000 in
set_option maxHeartbeats 4000000 in
theorem impl_FirstMoment_yes (m : Nat) (v : Value) (l : List Int) (w : World) (h : isSz (m : Int) = true) (hv : Sl w v l) (hg : good (m : Int) l = true) :
    Calls Try.prog 30 #[.int .i64 m, v] w fun e w' => e = .returned (.tuple #[.int .i64 (fm (psum m (tabl' m l)) 1 (m - 1)).1, .bool (fm (psum m (tabl' m l)) 1 (m - 1)).2]) ∧ Below w.heap.size w w' := by
  have hq := isSz_le (m : Int) h
  have HP := Lib.hid (validTable_yes m v l w h hv hg)
  have HTE := tabl_el h hg
  unfold tabl' at HP HTE ⊢
  generalize tabF (m : Int) (fun i => l.getD i 0) l.length = t at *
  have HC := Lib.hid (fun g w (hgl : g < w.heap.size) (he : Els w g (m : Int) t m) => firstMomentE m g m (oc t m) t w h hgl he HTE)
  generalize fm (psum m t) 1 (m - 1) = ans at *
  have hu46 := Try.underlying46
  have hi : ∀ a k, (Try.prog.info? 46).map (·.size) = some (VB (m : Int) (oc t m) (.slice a m k)).size := fun a k => by rw [VB_size]; kernel_rfl
  have HONE := Lib.hid (fun a k => VB_one (m : Int) (oc t m) a m k)
  have HSZ := Lib.hid (fun a k => VB_size (m : Int) (oc t m) (.slice a m k))
  clear h hv hg HTE
  go_enter Try.func30, Try.ntmps30
  go_wp2_with fail
  refine HP.out.mono ?_
  rintro e w1 ⟨g, rfl, hg1, hgl, he1, hb1⟩
  have HB1 := Lib.hid hb1
  have HE1 := Lib.hid he1
  have hnew := heap_alloc_new w1 zvtblk
  clear hb1 he1
  have hone := HONE.out (some ⟨g, 0, none⟩) m
  have hii := hi (some ⟨g, 0, none⟩) m
  have hss := HSZ.out (some ⟨g, 0, none⟩) m
  have HC1 : Hid (∀ W, W.heap.size = w1.heap.size + 1 → W.heap[g]? = w1.heap[g]? → Calls Try.prog 54 #[.agg (VB (m : Int) (oc t m) (.slice (some ⟨g, 0, none⟩) m m))] W fun e w' => e = .returned (.tuple #[.int .i64 ans.1, .bool ans.2]) ∧ Below W.heap.size W w') := Lib.hid fun W hW hgW => HC.out g W (by omega) (HE1.out.same hgW)
  have hgW : ((w1.alloc zvtblk).setRow w1.heap.size (VB (m : Int) (oc t m) (.slice (some ⟨g, 0, none⟩) m m))).heap[g]? = w1.heap[g]? := (setRow_other _ _ _ _ (by omega)).trans (Below.heap_alloc w1 zvtblk g hgl)
  have hgS : ((w1.alloc zvtblk).setRow w1.heap.size (VB (m : Int) (oc t m) (.slice (some ⟨g, 0, none⟩) m m))).heap.size = w1.heap.size + 1 := by simp [World.setRow]
  have hrow := setRow_heap (w1.alloc zvtblk) w1.heap.size _ (VB (m : Int) (oc t m) (.slice (some ⟨g, 0, none⟩) m m)) _ _ hnew
  generalize VB (m : Int) (oc t m) (.slice (some ⟨g, 0, none⟩) m m) = A at *
  have HBS : Hid (Below w.heap.size w ((w1.alloc zvtblk).setRow w1.heap.size A)) := Lib.hid (by have hb1 := HB1.out; exact below_setRow (hb1.alloc hb1.size _) hb1.size _)
  go_wp2_with (first | (refine wpList_store_rowTo rfl 46 _ _ rfl rfl w1.heap.size A rfl rfl 46 _ hnew hii hss.symm hone ?_) | refine wpList_load_row rfl 46 _ rfl w1.heap.size rfl 46 A (0, 0) _ hrow hu46 rfl hii ?_ | fail)
  refine (HC1.out _ hgS hgW).mono ?_
  rintro e w2 ⟨rfl, hb2⟩
  have HB2 : Hid (Below w.heap.size w w2) := Lib.hid (HBS.out.trans (hb2.mono HBS.out.size))
  have HZ := Lib.hid HBS.out.size
  clear hb2
  go_wp2
  go_ret2
  exact ⟨rfl, HB2.out⟩
set_option maxRecDepth 100000 in
set_option maxHeartbeats 4000000 in
theorem impl_ValueMoment_no (q : Int) (v : Value) (l : List Int) (k : Int) (w : World) (hv : Sl w v l) (hl : l.length ≤ 1048576) (hg : (isSz q && good q l) = false) :
    Calls Try.prog 28 #[.int .i64 q, v, .int .i64 k] w fun e w' => e = .returned (.tuple #[.int .i64 0, .bool false]) ∧ Below w.heap.size w w' := by
  have HP := Lib.hid (validTable_no q v l w hv hl hg)
  have hi : (Try.prog.info? 46).map (·.size) = some VZ.size := by rw [VZ_size]; kernel_rfl
  have hone := VZ_one
  clear hv hg hl
  go_enter Try.func28, Try.ntmps28
  go_wp2_with fail
  refine HP.out.mono ?_
  rintro e w1 ⟨rfl, hb1⟩
  have HB1 := Lib.hid hb1
  have hnew := heap_alloc_new w1 zvtblk
  clear hb1
  go_wp2_with (first | (refine wpList_store_rowTo rfl 46 _ _ rfl rfl w1.heap.size VZ rfl rfl 46 _ hnew hi rfl hone ?_) | fail)
  go_ret2
  have hb1 := HB1.out
  exact ⟨rfl, below_setRow (hb1.alloc hb1.size _) hb1.size _⟩
set_option maxRecDepth 100000 in
set_option maxHeartbeats 4000000 in
theorem impl_ValueMoment_out (m : Nat) (v : Value) (l : List Int) (k : Int) (w : World) (h : isSz (m : Int) = true) (hv : Sl w v l) (hg : good (m : Int) l = true) (hk : ¬ (0 ≤ k ∧ k ≤ 1000)) :
    Calls Try.prog 28 #[.int .i64 m, v, .int .i64 k] w fun e w' => e = .returned (.tuple #[.int .i64 0, .bool false]) ∧ Below w.heap.size w w' := by
  have HP := Lib.hid (validTable_yes m v l w h hv hg)
  unfold tabl' at HP
  generalize tabF (m : Int) (fun i => l.getD i 0) l.length = t at *
  have hi : ∀ a k, (Try.prog.info? 46).map (·.size) = some (VB (m : Int) (oc t m) (.slice a m k)).size := fun a k => by rw [VB_size]; kernel_rfl
  have HONE := Lib.hid (fun a k => VB_one (m : Int) (oc t m) a m k)
  have HSZ := Lib.hid (fun a k => VB_size (m : Int) (oc t m) (.slice a m k))
  clear h hv hg
  by_cases hk0 : k < 0
  all_goals
    go_enter Try.func28, Try.ntmps28
    go_wp2_with fail
    refine HP.out.mono ?_
    rintro e w1 ⟨g, rfl, hg1, hgl, he1, hb1⟩
    have HB1 := Lib.hid hb1
    have hnew := heap_alloc_new w1 zvtblk
    clear hb1 he1
    have hone := HONE.out (some ⟨g, 0, none⟩) m
    have hii := hi (some ⟨g, 0, none⟩) m
    have hss := HSZ.out (some ⟨g, 0, none⟩) m
    generalize VB (m : Int) (oc t m) (.slice (some ⟨g, 0, none⟩) m m) = A at *
    have hk1 : k < 0 ∨ (¬ k < 0 ∧ 1000 < k) := by omega
    rcases hk1 with hk2 | ⟨hk2, hk3⟩
    all_goals
      go_wp2_with (first | (refine wpList_store_rowTo rfl 46 _ _ rfl rfl w1.heap.size A rfl rfl 46 _ hnew hii hss.symm hone ?_) | fail)
      go_ret2
      have hb1 := HB1.out
      exact ⟨rfl, below_setRow (hb1.alloc hb1.size _) hb1.size _⟩
set_option maxRecDepth 100000 in
set_option maxHeartbeats 4000000 in
theorem impl_ValueMoment_yes (m K : Nat) (v : Value) (l : List Int) (w : World) (h : isSz (m : Int) = true) (hv : Sl w v l) (hg : good (m : Int) l = true) (hK : K ≤ 1000) :
    Calls Try.prog 28 #[.int .i64 m, v, .int .i64 K] w fun e w' => e = .returned (.tuple #[.int .i64 (psum m (tabl' m l) K), .bool true]) ∧ Below w.heap.size w w' := by
  have HP := Lib.hid (validTable_yes m v l w h hv hg)
  have HTE := tabl_el h hg
  unfold tabl' at HP HTE ⊢
  generalize tabF (m : Int) (fun i => l.getD i 0) l.length = t at *
  have HC := Lib.hid (fun g w (hgl : g < w.heap.size) (he : Els w g (m : Int) t m) => momentE m K g m (oc t m) t w h hgl he HTE hK)
  have HN := Lib.hid (fun w => numberE (m : Int) (psum m t K) w h (psum_el h HTE).1 (psum_el h HTE).2)
  have hu46 := Try.underlying46
  have hi : ∀ a k, (Try.prog.info? 46).map (·.size) = some (VB (m : Int) (oc t m) (.slice a m k)).size := fun a k => by rw [VB_size]; kernel_rfl
  have HONE := Lib.hid (fun a k => VB_one (m : Int) (oc t m) a m k)
  have HSZ := Lib.hid (fun a k => VB_size (m : Int) (oc t m) (.slice a m k))
  clear h hv hg HTE
  generalize psum m t K = y at *
  have hk1 : ¬ (K : Int) < 0 := by omega
  have hk2 : ¬ 1000 < (K : Int) := by omega
  go_enter Try.func28, Try.ntmps28
  go_wp2_with fail
  refine HP.out.mono ?_
  rintro e w1 ⟨g, rfl, hg1, hgl, he1, hb1⟩
  have HB1 := Lib.hid hb1
  have HE1 := Lib.hid he1
  have hnew := heap_alloc_new w1 zvtblk
  clear hb1 he1
  have hone := HONE.out (some ⟨g, 0, none⟩) m
  have hii := hi (some ⟨g, 0, none⟩) m
  have hss := HSZ.out (some ⟨g, 0, none⟩) m
  have HC1 : Hid (∀ W, W.heap.size = w1.heap.size + 1 → W.heap[g]? = w1.heap[g]? → Calls Try.prog 52 #[.agg (VB (m : Int) (oc t m) (.slice (some ⟨g, 0, none⟩) m m)), .int .i64 K] W fun e w' => e = .returned (elE (m : Int) y) ∧ Below W.heap.size W w') := Lib.hid fun W hW hgW => HC.out g W (by omega) (HE1.out.same hgW)
  have hgW : ((w1.alloc zvtblk).setRow w1.heap.size (VB (m : Int) (oc t m) (.slice (some ⟨g, 0, none⟩) m m))).heap[g]? = w1.heap[g]? := (setRow_other _ _ _ _ (by omega)).trans (Below.heap_alloc w1 zvtblk g hgl)
  have hgS : ((w1.alloc zvtblk).setRow w1.heap.size (VB (m : Int) (oc t m) (.slice (some ⟨g, 0, none⟩) m m))).heap.size = w1.heap.size + 1 := by simp [World.setRow]
  have hrow := setRow_heap (w1.alloc zvtblk) w1.heap.size _ (VB (m : Int) (oc t m) (.slice (some ⟨g, 0, none⟩) m m)) _ _ hnew
  generalize VB (m : Int) (oc t m) (.slice (some ⟨g, 0, none⟩) m m) = A at *
  have HBS : Hid (Below w.heap.size w ((w1.alloc zvtblk).setRow w1.heap.size A)) := Lib.hid (by have hb1 := HB1.out; exact below_setRow (hb1.alloc hb1.size _) hb1.size _)
  go_wp2_with (first | (refine wpList_store_rowTo rfl 46 _ _ rfl rfl w1.heap.size A rfl rfl 46 _ hnew hii hss.symm hone ?_) | refine wpList_load_row rfl 46 _ rfl w1.heap.size rfl 46 A (0, 0) _ hrow hu46 rfl hii ?_ | fail)
  refine (HC1.out _ hgS hgW).mono ?_
  rintro e w2 ⟨rfl, hb2⟩
  have HB2 : Hid (Below w.heap.size w w2) := Lib.hid (HBS.out.trans (hb2.mono HBS.out.size))
  clear hb2
  go_wp2_with fail
  refine (HN.out _).mono ?_
  rintro e w3 ⟨rfl, hb3⟩
  have HB3 : Hid (Below w.heap.size w w3) := Lib.hid (HB2.out.trans (hb3.mono HB2.out.size))
  clear hb3
  go_wp2
  go_ret2
  exact ⟨rfl, HB3.out⟩
end Go.Proofs.Ytnmdcmbcackchaa
