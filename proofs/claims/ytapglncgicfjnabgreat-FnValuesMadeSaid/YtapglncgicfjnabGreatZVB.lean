/- Several texts in one (tools/upbundle.py): LE OH OI OJ OB LF OK OL OP OQ. -/
import Derived.Test.YtapglncgicfjnabGreatLC
import Derived.Test.YtapglncgicfjnabGreatKG
import Derived.Test.YtapglncgicfjnabGreatZVA
import Derived.Test.YtapglncgicfjnabGreatKI
import Derived.Test.YtapglncgicfjnabGreatKL
import Derived.Test.YtapglncgicfjnabGreatOO
import Derived.Test.YtapglncgicfjnabGreatLJ
/-! LE -/
namespace Go.Proofs.YtapglncgicfjnabGreat
open Go.RowKit
theorem at_box' {w : World} {b : Nat} {v : Value} {T : TypeId} (h : w.heap[b]? = some (.cells #[v] T (0, 0))) : w.cell? ⟨b, 0, none⟩ = some v := at_box h
/-- The sum of the powers k of a table's values. -/
def psum (m : Nat) (t : Nat → Int) (k : Nat) : Int := lsum (m : Int) (fun i => pw (m : Int) (t i) k) m
theorem psum_el {m k : Nat} {t : Nat → Int} (h : isSz (m : Int) = true) (ht : ∀ i, i < m → El (m : Int) (t i)) : El (m : Int) (psum m t k) := lsum_el h fun i hi => El.pw h (ht i hi) k
/-- The cells of no table. -/
def VZ : Array Value := #[.int .i64 0, .int .i64 0, .int .i64 0, .int .i64 0, .int .i64 0, .int .i64 0, .int .i64 0, .int .i64 0, .int .i64 0, .int .i64 0, .int .i64 0, .int .i64 0, .int .i64 0, .int .i64 0, .int .i64 0, .int .i64 0, .int .i64 0, .int .i64 0, .int .i64 0, .slice none 0 0]
theorem VZ_size : VZ.size = 20 := rfl
theorem VZ_one : VZ.all (·.oneCell') = true := by simp [VZ, Value.oneCell']
/-- The table of a list's polynomial. -/
abbrev tabl' (m : Nat) (l : List Int) : Nat → Int := tabF (m : Int) (fun i => l.getD i 0) l.length
theorem results_row_and {P : Program} {fn : Func} {p s : Tmp} {ty : TypeId} (h : fn.results = #[.cell p ty, .tmp s]) (tmps : Array Value) (w : World) (g : Nat) (cs : Array Value) (u : Value)
    (hp : tmps.getD p undef = .pointer (some ⟨g, 0, none⟩)) (hs : tmps.getD s undef = u) (hl : (loadVar ty ⟨g, 0, none⟩).run P w = .ok (.agg cs) w) :
    (results fn tmps).run P w = .ok (.tuple #[.agg cs, u]) w := by
  have hp' : tmps[p]?.getD undef = .pointer (some ⟨g, 0, none⟩) := by simpa using hp
  have hs' : tmps[s]?.getD undef = u := by simpa using hs
  simp [results, h, hp', hs', asAddr, hl]
set_option maxRecDepth 100000 in
set_option maxHeartbeats 4000000 in
theorem validTable_yes (m : Nat) (v : Value) (l : List Int) (w : World) (h : isSz (m : Int) = true) (hv : Sl w v l) (hg : good (m : Int) l = true) :
    Calls Tryz.prog 77 #[.int .i64 m, v] w fun e w' => ∃ g, e = .returned (.tuple #[.agg (VB (m : Int) (oc (tabl' m l) m) (.slice (some ⟨g, 0, none⟩) m m)), .bool true]) ∧ w.heap.size ≤ g ∧ g < w'.heap.size ∧ Els w' g (m : Int) (tabl' m l) m ∧ Below w.heap.size w w' := by
  have hq := isSz_le (m : Int) h
  obtain ⟨hlen, _⟩ := good_parts hg
  have hae := all_el h (good_parts hg).2
  have HP := Lib.hid (fun w' (hb : Below w.heap.size w w') => validPoly_yes (m : Int) v l w' h (hv.below hb (Nat.le_refl _)) hg)
  have HT := Lib.hid (fun g w' (hgl : g < w'.heap.size) (he : Els w' g (m : Int) (fun i => l.getD i 0) l.length) => valueTableE m g l.length l.length (fun i => l.getD i 0) w' h hgl he hae (by omega))
  have hu := Tryz.underlying82
  unfold tabl'
  clear h hv hg hae
  generalize tabF (m : Int) (fun i => l.getD i 0) l.length = t at *
  generalize (fun i => l.getD i 0) = f at *
  generalize l.length = n at *
  have hi : ∀ a k, (Tryz.prog.info? 82).map (·.size) = some (VB (m : Int) (oc t m) (.slice a m k)).size := fun a k => by rw [VB_size]; kernel_rfl
  have HONE := Lib.hid (fun a k => VB_one (m : Int) (oc t m) a m k)
  have HSZ := Lib.hid (fun a k => VB_size (m : Int) (oc t m) (.slice a m k))
  go_enter Tryz.func77, Tryz.ntmps77
  go_wp2_with fail
  refine (HP.out _ (by (repeat' (first | (with_reducible assumption) | (with_reducible exact Below.refl _ _) | (with_reducible refine below_drewN ?_ _) | (with_reducible refine Below.drew ?_) | (with_reducible refine Below.alloc ?_ ?_ _) | (with_reducible refine Below.setCell ?_ ?_ _) | (with_reducible refine Below.trans ?_ (Below.mono (by assumption) ?_)) | (with_reducible exact Nat.le_refl _) | (with_reducible assumption) | omega | (simp; omega) | (simp; done))))).mono ?_
  rintro e w1 ⟨g, rfl, hg1, hk1, he1, hb1⟩
  have hgl := hk1.lt
  have HE1 := Lib.hid he1
  have HZ1 : Hid (w1.heap[w.heap.size]? = some zvtblk) := Lib.hid ((hb1.block _ (by simp)).trans (heap_alloc_new w zvtblk))
  have l1 : w.heap.size < w1.heap.size := by have := hb1.size; simp at this; omega
  clear hk1 he1
  obtain ⟨hc1, hf1⟩ := bcell hb1; have hz1 := hb1.size; (try simp at hz1); have HB1 := Lib.hid hb1; clear hb1
  simp at hg1
  go_wp2_with fail
  refine (HT.out g _ (by simp; omega) (HE1.out.below (B := w1.heap.size) (by (repeat' (first | (with_reducible assumption) | (with_reducible exact Below.refl _ _) | (with_reducible refine below_drewN ?_ _) | (with_reducible refine Below.drew ?_) | (with_reducible refine Below.alloc ?_ ?_ _) | (with_reducible refine Below.setCell ?_ ?_ _) | (with_reducible refine Below.trans ?_ (Below.mono (by assumption) ?_)) | (with_reducible exact Nat.le_refl _) | (with_reducible assumption) | omega | (simp; omega) | (simp; done)))) hgl)).mono ?_
  rintro e w2 ⟨g2, rfl, hg2, hgl2, he2, hb2⟩
  have HE2 := Lib.hid he2
  have hbz : Below w1.heap.size w1 w2 := by (repeat' (first | (with_reducible assumption) | (with_reducible exact Below.refl _ _) | (with_reducible refine below_drewN ?_ _) | (with_reducible refine Below.drew ?_) | (with_reducible refine Below.alloc ?_ ?_ _) | (with_reducible refine Below.setCell ?_ ?_ _) | (with_reducible refine Below.trans ?_ (Below.mono (by assumption) ?_)) | (with_reducible exact Nat.le_refl _) | (with_reducible assumption) | omega | (simp; omega) | (simp; done)))
  have HZ2 : Hid (w2.heap[w.heap.size]? = some zvtblk) := Lib.hid ((hbz.block _ l1).trans HZ1.out)
  have HBZ : Hid (Below w.heap.size w w2) := Lib.hid (by have hb1 := HB1.out; (repeat' (first | (with_reducible assumption) | (with_reducible exact Below.refl _ _) | (with_reducible refine below_drewN ?_ _) | (with_reducible refine Below.drew ?_) | (with_reducible refine Below.alloc ?_ ?_ _) | (with_reducible refine Below.setCell ?_ ?_ _) | (with_reducible refine Below.trans ?_ (Below.mono (by assumption) ?_)) | (with_reducible exact Nat.le_refl _) | (with_reducible assumption) | omega | (simp; omega) | (simp; done))))
  have hz2 := hbz.size
  clear hb2 hbz he2
  simp at hg2
  have hone := HONE.out (some ⟨g2, 0, none⟩) m
  have hii := hi (some ⟨g2, 0, none⟩) m
  have hss := HSZ.out (some ⟨g2, 0, none⟩) m
  obtain ⟨A, hA⟩ : ∃ A, VB (m : Int) (oc t m) (.slice (some ⟨g2, 0, none⟩) m m) = A := ⟨_, rfl⟩
  rw [hA] at hone hii hss ⊢
  have HA := Lib.hid hA
  clear hA
  go_wp2_with (first | (refine wpList_store_rowTo rfl 82 _ _ rfl rfl w.heap.size A rfl rfl 82 _ HZ2.out hii hss.symm hone ?_) | fail)
  have hlv := run_loadVar_row (P := Tryz.prog) (w2.setRow w.heap.size A) w.heap.size 82 82 A (0, 0) _ (setRow_heap w2 w.heap.size _ A _ _ HZ2.out) hu rfl hii
  refine bodyPost_ret (v := .tuple #[.agg A, .bool true]) (results_row_and rfl _ _ w.heap.size _ _ rfl rfl hlv) rfl ?_
  refine ⟨g2, by rw [HA.out], by omega, ?_, HE2.out.same (setRow_other _ _ _ _ (by omega)), below_setRow HBZ.out (Nat.le_refl _) _⟩
  simp [World.setRow]
  omega
set_option maxRecDepth 100000 in
set_option maxHeartbeats 4000000 in
theorem validTable_no (q : Int) (v : Value) (l : List Int) (w : World) (hv : Sl w v l) (hl : l.length ≤ 1048576) (hg : (isSz q && good q l) = false) :
    Calls Tryz.prog 77 #[.int .i64 q, v] w fun e w' => e = .returned (.tuple #[.agg VZ, .bool false]) ∧ Below w.heap.size w w' := by
  have HP := Lib.hid (fun w' (hb : Below w.heap.size w w') => validPoly_no q v l w' (hv.below hb (Nat.le_refl _)) hl hg)
  have hu := Tryz.underlying82
  have hi : (Tryz.prog.info? 82).map (·.size) = some VZ.size := by rw [VZ_size]; kernel_rfl
  have hone := VZ_one
  clear hv hg hl
  go_enter Tryz.func77, Tryz.ntmps77
  go_wp2_with fail
  refine (HP.out _ (by (repeat' (first | (with_reducible assumption) | (with_reducible exact Below.refl _ _) | (with_reducible refine below_drewN ?_ _) | (with_reducible refine Below.drew ?_) | (with_reducible refine Below.alloc ?_ ?_ _) | (with_reducible refine Below.setCell ?_ ?_ _) | (with_reducible refine Below.trans ?_ (Below.mono (by assumption) ?_)) | (with_reducible exact Nat.le_refl _) | (with_reducible assumption) | omega | (simp; omega) | (simp; done))))).mono ?_
  rintro e w1 ⟨rfl, hb1⟩
  have HZ1 : Hid (w1.heap[w.heap.size]? = some zvtblk) := Lib.hid ((hb1.block _ (by simp)).trans (heap_alloc_new w zvtblk))
  have l1 : w.heap.size < w1.heap.size := by have := hb1.size; simp at this; omega
  have HBZ : Hid (Below w.heap.size w w1) := Lib.hid (by (repeat' (first | (with_reducible assumption) | (with_reducible exact Below.refl _ _) | (with_reducible refine below_drewN ?_ _) | (with_reducible refine Below.drew ?_) | (with_reducible refine Below.alloc ?_ ?_ _) | (with_reducible refine Below.setCell ?_ ?_ _) | (with_reducible refine Below.trans ?_ (Below.mono (by assumption) ?_)) | (with_reducible exact Nat.le_refl _) | (with_reducible assumption) | omega | (simp; omega) | (simp; done))))
  clear hb1
  have HW2 : Hid (∀ o, (w1.alloc o).heap[w.heap.size]? = some zvtblk) := Lib.hid fun o => (Below.heap_alloc w1 o _ l1).trans HZ1.out
  go_wp2_with (first | (refine wpList_buildTo rfl 82 _ rfl _ rfl VZ (by kernel_rfl) ?_) | (refine wpList_store_rowTo rfl 82 _ _ rfl rfl w.heap.size VZ rfl rfl 82 _ (HW2.out _) hi rfl hone ?_) | fail)
  have hlv : ∀ o, (loadVar 82 ⟨w.heap.size, 0, none⟩).run Tryz.prog ((w1.alloc o).setRow w.heap.size VZ) = .ok (.agg VZ) ((w1.alloc o).setRow w.heap.size VZ) := fun o => run_loadVar_row (P := Tryz.prog) ((w1.alloc o).setRow w.heap.size VZ) w.heap.size 82 82 VZ (0, 0) _ (setRow_heap (w1.alloc o) w.heap.size _ VZ _ _ (HW2.out o)) hu rfl hi
  refine bodyPost_ret (v := .tuple #[.agg VZ, .bool false]) (results_row_and rfl _ _ w.heap.size _ _ rfl rfl (hlv _)) rfl ?_
  exact ⟨rfl, below_setRow (by have hbz := HBZ.out; (repeat' (first | (with_reducible assumption) | (with_reducible exact Below.refl _ _) | (with_reducible refine below_drewN ?_ _) | (with_reducible refine Below.drew ?_) | (with_reducible refine Below.alloc ?_ ?_ _) | (with_reducible refine Below.setCell ?_ ?_ _) | (with_reducible refine Below.trans ?_ (Below.mono (by assumption) ?_)) | (with_reducible exact Nat.le_refl _) | (with_reducible assumption) | omega | (simp; omega) | (simp; done)))) (Nat.le_refl _) _⟩
end Go.Proofs.YtapglncgicfjnabGreat
/-! OJ -/
namespace Go.Proofs.YtapglncgicfjnabGreat
open Go.RowKit
/-- The counts as read out of a table. -/
def VAL (q : Int) (c : Nat → Int) : List Value := (VA q c).toList
theorem VAL_arr (q : Int) (c : Nat → Int) : (VAL q c).toArray = VA q c := by simp [VAL]
theorem VAL_len (q : Int) (c : Nat → Int) : (VAL q c).length = 19 := rfl
theorem tabl_el {m : Nat} {l : List Int} (h : isSz (m : Int) = true) (hg : good (m : Int) l = true) (i : Nat) (hi : i < m) : El (m : Int) (tabl' m l i) := tab_el (k := l.length) h (all_el h (good_parts hg).2) i hi
set_option maxRecDepth 100000 in
set_option maxHeartbeats 4000000 in
theorem impl_ValuesOf_no (q : Int) (v : Value) (l : List Int) (w : World) (hv : Sl w v l) (hl : l.length ≤ 1048576) (hg : (isSz q && good q l) = false) :
    Calls Tryz.prog 12 #[.int .i64 q, v] w fun e w' => e = .returned (.tuple #[.slice none 0 0, .bool false]) ∧ Below w.heap.size w w' := by
  have HP := Lib.hid (validTable_no q v l w hv hl hg)
  have hi : (Tryz.prog.info? 82).map (·.size) = some VZ.size := by rw [VZ_size]; kernel_rfl
  have hone := VZ_one
  clear hv hg hl
  go_enter Tryz.func12, Tryz.ntmps12
  go_wp2_with fail
  refine HP.out.mono ?_
  rintro e w1 ⟨rfl, hb1⟩
  have HB1 := Lib.hid hb1
  have hnew := heap_alloc_new w1 zvtblk
  clear hb1
  go_wp2_with (first | (refine wpList_store_rowTo rfl 82 _ _ rfl rfl w1.heap.size VZ rfl rfl 82 _ hnew hi rfl hone ?_) | fail)
  go_ret2
  have hb1 := HB1.out
  exact ⟨rfl, below_setRow (hb1.alloc hb1.size _) hb1.size _⟩
set_option maxRecDepth 100000 in
set_option maxHeartbeats 4000000 in
theorem impl_ValuesOf_yes (m : Nat) (v : Value) (l : List Int) (w : World) (h : isSz (m : Int) = true) (hv : Sl w v l) (hg : good (m : Int) l = true) :
    Calls Tryz.prog 12 #[.int .i64 m, v] w fun e w' => ∃ v', e = .returned (.tuple #[v', .bool true]) ∧ Row w' w.heap.size v' (wh (mt (tabl' m l) m) m) ∧ Below w.heap.size w w' := by
  have hq := isSz_le (m : Int) h
  have HP := Lib.hid (validTable_yes m v l w h hv hg)
  have HTE := tabl_el h hg
  unfold tabl' at HP HTE ⊢
  generalize tabF (m : Int) (fun i => l.getD i 0) l.length = t at *
  have HC := Lib.hid (fun w => listE m (oc t m) w h)
  rw [← VAL_arr] at HC
  have HVR : Hid (∀ (W : World) (b : Nat) (u : Value), W.heap[b]? = some (.cells (VB (m : Int) (oc t m) u) 82 (0, 0)) → W.rangeAt b 0 (VAL (m : Int) (oc t m))) := Lib.hid fun W b u hh => VB_range hh
  have hu43 := Tryz.underlying80
  have hi43 : (Tryz.prog.info? 80).map (·.size) = some (VAL (m : Int) (oc t m)).length := by rw [VAL_len]; kernel_rfl
  generalize VAL (m : Int) (oc t m) = LL at *
  have HIP : Hid (ps (oc t m) = mt t m) := Lib.hid rfl
  rw [HIP.out] at HC
  clear HIP
  have hi : ∀ a k, (Tryz.prog.info? 82).map (·.size) = some (VB (m : Int) (oc t m) (.slice a m k)).size := fun a k => by rw [VB_size]; kernel_rfl
  have HONE := Lib.hid (fun a k => VB_one (m : Int) (oc t m) a m k)
  have HSZ := Lib.hid (fun a k => VB_size (m : Int) (oc t m) (.slice a m k))
  clear h hv hg HTE
  go_enter Tryz.func12, Tryz.ntmps12
  go_wp2_with fail
  refine HP.out.mono ?_
  rintro e w1 ⟨g, rfl, hg1, hgl, he1, hb1⟩
  have HB1 := Lib.hid hb1
  have HE1 := Lib.hid he1
  have hnew := heap_alloc_new w1 zvtblk
  clear hb1 he1
  have hone := HONE.out (some ⟨g, 0, none⟩) m
  have hii := hi (some ⟨g, 0, none⟩) m
  have hss := HSZ.out (some ⟨g, 0, none⟩) m
  have hvr := HVR.out ((w1.alloc zvtblk).setRow w1.heap.size (VB (m : Int) (oc t m) (.slice (some ⟨g, 0, none⟩) m m))) w1.heap.size (.slice (some ⟨g, 0, none⟩) m m) (setRow_heap _ _ _ _ _ _ hnew)
  generalize VB (m : Int) (oc t m) (.slice (some ⟨g, 0, none⟩) m m) = A at *
  have HBS : Hid (Below w.heap.size w ((w1.alloc zvtblk).setRow w1.heap.size A)) := Lib.hid (by have hb1 := HB1.out; exact below_setRow (hb1.alloc hb1.size _) hb1.size _)
  go_wp2_with (first | (refine wpList_store_rowTo rfl 82 _ _ rfl rfl w1.heap.size A rfl rfl 82 _ hnew hii hss.symm hone ?_) | refine wpList_load_mid rfl 80 _ rfl w1.heap.size 0 rfl LL _ hvr hu43 rfl hi43 ?_ | fail)
  refine (HC.out _).mono ?_
  rintro e w2 ⟨v2, rfl, hr2, hb2⟩
  have HR2 := Lib.hid hr2
  clear hr2
  have HB2 : Hid (Below w.heap.size w w2) := Lib.hid (HBS.out.trans (hb2.mono HBS.out.size))
  have HZ := Lib.hid HBS.out.size
  clear hb2
  go_wp2
  go_ret2
  exact ⟨_, rfl, HR2.out.mono HZ.out, HB2.out⟩
theorem part0_z (m : Nat) : fl (part0 (fun _ => 0) 0) m = fl (fun _ => 0) m := fl_congr fun i _ => by simp [part0]
set_option maxHeartbeats 2000000 in
/-- spec.vaCounts. -/
theorem vaCounts_any (m n : Nat) (v : Value) (t : Nat → Int) (w : World) (hm : 1 ≤ m ∧ m ≤ 16) (hv : Sl w v (fl t n)) (ht : ∀ i, i < n → El (m : Int) (t i)) (hn : n ≤ 1000) :
    Calls Tryz.prog 172 #[.int .i64 m, v] w fun e w' => ∃ g, e = .returned (.slice (some ⟨g, 0, none⟩) m m) ∧ w.heap.size ≤ g ∧ g < w'.heap.size ∧ Row w' w.heap.size (.slice (some ⟨g, 0, none⟩) m m) (fl (oc t n) m) ∧ Below w.heap.size w w' := by
  obtain ⟨i0, hi, iz0, iz1, iz2⟩ := info_parts Tryz.infoI
  obtain ⟨a, cap, rfl, hcc⟩ := hv.parts
  have HT := Lib.hid ht
  have HCL := Lib.hid hcc
  have HBD := Lib.hid (oc_bd t)
  have HSU := Lib.hid (oc_succ t)
  clear hv hcc ht
  go_enter Tryz.func172, Tryz.ntmps172
  go_wp2_with (at_make; refine wpList_make_full _ rfl _ _ 24 rfl w.heap.size 3 i0 (.int .i64 0) 1 Tryz.underlying24 hi iz0 iz1 .i64 .i64 _ _ m rfl rfl rfl rfl ?c3 ?c4 ?c5 ?_)
  case c3 => rw [iz2]; omega
  case c4 => unfold maxLen; omega
  case c5 => omega
  intro w1 hown hgrow
  have HR : Hid (Row w1 w.heap.size (.slice (some ⟨w.heap.size, 0, none⟩) m m) (fl (oc t 0) m)) := Lib.hid (by
    have := Row.madeF (fun _ => 0) hown
    rw [part0_z] at this
    exact this)
  have HB := Lib.hid ((Below.refl w.heap.size w).grown hgrow (Nat.le_refl _) (fun k hk => by cases hk))
  have hgl : w.heap.size < w1.heap.size := (HR.out.lt w.heap.size rfl).2
  clear hown hgrow
  go_wp2_with fail
  go_loopw [12] (fun vi wr => ∃ i : Nat, i ≤ n ∧ vi = .int .i64 i ∧ Row wr w.heap.size (.slice (some ⟨w.heap.size, 0, none⟩) m m) (fl (oc t i) m) ∧ w.heap.size < wr.heap.size ∧ Below w.heap.size w wr) (fun vi _ => n - (intOf vi).toNat)
  case atStart => exact ⟨0, Nat.zero_le _, rfl, HR.out, hgl, HB.out⟩
  case round =>
    obtain ⟨i, hin, rfl, hr, hgl', hbw⟩ := hrel
    by_cases hlt : i < n
    · obtain ⟨b, off, rfl, hb, hc⟩ := HCL.out (by omega)
      have hcell := (hbw.cell (p := ⟨b, off + i, none⟩) hb).trans (hc i hlt)
      have hte := HT.out i hlt
      obtain ⟨k, hk⟩ := Int.eq_ofNat_of_zero_le hte.1
      rw [hk] at hcell
      have hk2 : k < m := by have := hte.2; omega
      have e2 := Row.cell (l := fl (oc t i) m) (cap := m) (by rw [fl_len]; exact hr) k (by rw [fl_len]; exact hk2)
      rw [fl_get _ _ _ hk2] at e2
      have f2 := hr.frozen (by rw [fl_len]) k
      have HST := Lib.hid (hr.store (by rw [fl_len]) k (oc t i k + 1))
      have HUP := Lib.hid (HSU.out i k hk)
      have hbd := HBD.out i k
      have HBW := Lib.hid hbw
      clear hr hbw hc hte hk
      generalize hcc : oc t i k = c at *
      clear hcc
      go_wp2
      go_roundw
      case rel =>
        refine ⟨i + 1, by omega, by go_num, ?_, by simp; omega, HBW.out.setCell (Nat.le_refl _) _⟩
        rw [HUP.out, ← fl_set]
        exact HST.out
      case measure => (simp [intOf]; try omega)
    · obtain rfl : n = i := by omega
      have HRr := Lib.hid hr
      have HBW := Lib.hid hbw
      clear hr hbw
      go_wp2
      go_ret
      exact ⟨_, rfl, Nat.le_refl _, hgl', HRr.out, HBW.out⟩
set_option maxHeartbeats 2000000 in
/-- spec.vaSet. -/
theorem vaSet_any (m g cap : Nat) (c : Nat → Int) (w : World) (hm : m ≤ 16) (hg : g < w.heap.size) (hc : ∀ i, i < m → w.cell? ⟨g, i, none⟩ = some (.int .i64 (c i))) :
    Calls Tryz.prog 171 #[.slice (some ⟨g, 0, none⟩) m cap] w fun e w' => ∃ v, e = .returned v ∧ Row w' w.heap.size v (wh (fun y => decide (0 < c y)) m) ∧ Below w.heap.size w w' := by
  obtain ⟨i0, hi, iz0, iz1, iz2⟩ := info_parts Tryz.infoI
  have HC := Lib.hid hc
  have HI : Hid (∀ i, (fun y => decide (0 < c y)) i = decide (0 < c i)) := Lib.hid fun _ => rfl
  clear hc
  generalize (fun y => decide (0 < c y)) = P at *
  go_enter Tryz.func171, Tryz.ntmps171
  go_wp2_with fail
  go_loopw [3, 8] (fun vo vi wr => ∃ k : Nat, k ≤ m ∧ vi = .int .i64 k ∧ Row wr w.heap.size vo (wh P k) ∧ Below w.heap.size w wr) (fun _ vi _ => m - (intOf vi).toNat)
  case atStart => exact ⟨0, Nat.zero_le _, rfl, Row.nil _ _, Below.refl _ _⟩
  case round =>
    obtain ⟨k, hk, rfl, hr, hbw⟩ := hrel
    have hz := hbw.size
    have HL := Lib.hid (wh_len P k)
    by_cases hlt : k < m
    · have hc0 := (hbw.cell (p := ⟨g, k, none⟩) hg).trans (HC.out k hlt)
      have HR := Lib.hid hr; clear hr
      have HBW := Lib.hid hbw; clear hbw
      have HIk := Lib.hid (HI.out k)
      generalize c k = x at *
      by_cases hx : 0 < x
      · have HS := Lib.hid (wh_yes P k (by rw [HIk.out]; simpa using hx))
        go_wp2_with (at_builtin; refine wpList_append_own _ rfl _ _ 24 rfl w.heap.size 3 i0 (.int .i64 0) 1 8 Tryz.underlying24 hi iz0 iz1 iz2 rfl (by decide) _ _ _ rfl (World.ownsRow.alloc HR.out _) ⟨wr.heap.size, 0, none⟩ 1 1 [.int .i64 k] rfl rfl ?c1 ?c2 ?c3 ?c4 ?c5 ?_)
        case c1 => exact cell_one_new _ _ _
        case c2 => first | rfl | (intro u hu; simp at hu; subst hu; rfl)
        case c3 => have := HL.out; unfold maxLen; omega
        case c4 => have := HL.out; omega
        case c5 => first | omega | (simp; omega)
        intro v' w6 hown hgrow _
        have HR6 := Lib.hid (Row.appended hown)
        have hb : Below w.heap.size w (wr.alloc (.cells #[.int .i64 k] 3)) := HBW.out.alloc (by omega) _
        have HB6 := Lib.hid (hb.grown hgrow (by simp; omega) (fun g hg => (HR.out.lt g hg).1))
        clear hown hgrow hb
        go_wp2
        go_roundw
        case rel => exact ⟨k + 1, by omega, by go_num, by rw [HS.out]; exact HR6.out, HB6.out⟩
        case measure => simp [intOf]; omega
      · have HS := Lib.hid (wh_no P k (by rw [HIk.out]; simpa using hx))
        go_wp2
        go_roundw
        case rel => exact ⟨k + 1, by omega, by go_num, by rw [HS.out]; exact HR.out, HBW.out⟩
        case measure => simp [intOf]; omega
    · obtain rfl : m = k := by omega
      have HR := Lib.hid hr; clear hr
      have HBW := Lib.hid hbw; clear hbw
      go_wp2
      go_ret
      exact ⟨_, rfl, HR.out, HBW.out⟩
set_option maxHeartbeats 1000000 in
/-- spec.vaValues. -/
theorem vaValues_any (m n : Nat) (v : Value) (t : Nat → Int) (w : World) (hm : 1 ≤ m ∧ m ≤ 16) (hv : Sl w v (fl t n)) (ht : ∀ i, i < n → El (m : Int) (t i)) (hn : n ≤ 1000) :
    Calls Tryz.prog 87 #[.int .i64 m, v] w fun e w' => ∃ v', e = .returned v' ∧ Row w' w.heap.size v' (wh (mt t n) m) ∧ Below w.heap.size w w' := by
  have H1 := Lib.hid (vaCounts_any m n v t w hm hv ht hn)
  have HM : Hid (mt t n = fun y => decide (0 < oc t n y)) := Lib.hid rfl
  clear hv ht
  go_enter Tryz.func87, Tryz.ntmps87
  go_wp2_with fail
  refine H1.out.mono ?_
  rintro e w1 ⟨g, rfl, hg, hgl, hr, hb⟩
  have H2 := Lib.hid (vaSet_any m g m (oc t n) w1 hm.2 hgl fun i hi => by
    have := Row.cell (l := fl (oc t n) m) (by rw [fl_len]; exact hr) i (by rw [fl_len]; exact hi)
    rwa [fl_get _ _ _ hi] at this)
  have HB := Lib.hid hb
  have hz := hb.size
  clear hr hb
  go_wp2_with fail
  refine H2.out.mono ?_
  rintro e w2 ⟨v2, rfl, hr2, hb2⟩
  have HR2 := Lib.hid hr2
  have HB2 := Lib.hid hb2
  clear hr2 hb2
  go_wp2
  go_ret
  exact ⟨_, rfl, by rw [HM.out]; exact HR2.out.mono hz, HB.out.trans (HB2.out.mono hz)⟩
end Go.Proofs.YtapglncgicfjnabGreat
/-! LF -/
namespace Go.Proofs.YtapglncgicfjnabGreat
open Go.RowKit
/-- The power is in its limits. -/
def inK (k : Int) : Bool := decide (0 ≤ k) && decide (k ≤ 100)
theorem pa_16 {m : Nat} {l : List Int} (h : isSz (m : Int) = true) (hg : good (m : Int) l = true) : pa (oc (tabl' m l) m) 16 = pa (oc (tabl' m l) m) m := by
  have hq := isSz_le (m : Int) h
  have := pa_out (c := oc (tabl' m l) m) (m := m) (oc_out m fun i hi => tabl_el h hg i hi) (16 - m)
  rwa [show m + (16 - m) = 16 by omega] at this
theorem tw_16 {m : Nat} {l : List Int} (h : isSz (m : Int) = true) (hg : good (m : Int) l = true) : tw (oc (tabl' m l) m) 0 16 0 = tw (oc (tabl' m l) m) 0 m 0 := by
  have hq := isSz_le (m : Int) h
  have := tw_out (c := oc (tabl' m l) m) (m := m) (d := 16 - m) (oc_out m fun i hi => tabl_el h hg i hi) m 0 0 (by omega)
  rwa [show m + (16 - m) = 16 by omega] at this
/-- The values at a set's elements. -/
def svs (m : Nat) (l s : List Int) : Nat → Int := fun i => hor (m : Int) (s.getD i 0) (fun i => l.getD i 0) l.length l.length
theorem set_el {m : Nat} {s : List Int} (h : rsn (m : Int) s = true) (i : Nat) (hi : i < s.length) : El (m : Int) (s.getD i 0) := by
  simp only [rsn, Bool.and_eq_true] at h
  have := List.all_eq_true.1 h.1 _ (show s.getD i 0 ∈ s by rw [show s.getD i 0 = s[i] by simp [List.getD, hi]]; exact List.getElem_mem hi)
  simp only [inF, Bool.and_eq_true, decide_eq_true_iff] at this
  exact this
theorem svs_el {m : Nat} {l s : List Int} (h : isSz (m : Int) = true) (hg : good (m : Int) l = true) (hs : rsn (m : Int) s = true) (i : Nat) (hi : i < s.length) : El (m : Int) (svs m l s i) :=
  hor_el (n := l.length) h (set_el hs i hi) (good_el hg) l.length (Nat.le_refl _)
theorem spec_ValuesOfSet_no (q : Int) (v u : Value) (l s : List Int) (w : World) (hv : Sl w v l) (hl : l.length ≤ 1048576) (hu : Sl w u s) (hs : s.length ≤ 1048576) (hn : ((isSz q && good q l) && rsn q s) = false) :
    Calls Tryz.prog 15 #[.int .i64 q, v, u] w fun e w' => e = .returned (.tuple #[.slice none 0 0, .bool false]) ∧ Below w.heap.size w w' := by
  have hp := plGood_any q v l w hv hl
  cases hg : isSz q && good q l with
  | false =>
    rw [hg] at hp
    have HP := Lib.hid hp
    clear hp hg hv hl hn hu hs
    go_enter Tryz.func15, Tryz.ntmps15
    go_wp2_with fail
    refine HP.out.mono ?_
    rintro e w1 ⟨rfl, hb1⟩
    go_wp2
    go_ret2
    exact ⟨rfl, hb1⟩
  | true =>
    have hsz : isSz q = true := by simp only [Bool.and_eq_true] at hg; exact hg.1
    rw [hg, Bool.true_and] at hn
    rw [hg] at hp
    have HP := Lib.hid hp
    have HS := Lib.hid (fun w' (hb : Below w.heap.size w w') => by have := vaRising_any q u s w' (hu.below hb (Nat.le_refl _)) hs; rw [hsz, hn] at this; exact this)
    clear hp hg hv hl hn hu hs
    go_enter Tryz.func15, Tryz.ntmps15
    go_wp2_with fail
    refine HP.out.mono ?_
    rintro e w1 ⟨rfl, hb1⟩
    have hz_hb1 := hb1.size; (try simp at hz_hb1)
    have HB1 := Lib.hid hb1; clear hb1
    go_wp2_with fail
    refine (HS.out _ HB1.out).mono ?_
    rintro e w2 ⟨rfl, hb2⟩
    have HB2 := Lib.hid hb2; clear hb2
    go_wp2
    go_ret2
    exact ⟨rfl, HB1.out.trans (HB2.out.mono hz_hb1)⟩
theorem impl_ValuesOfSet_no (q : Int) (v u : Value) (l s : List Int) (w : World) (hv : Sl w v l) (hl : l.length ≤ 1048576) (hu : Sl w u s) (hs : s.length ≤ 1048576) (hn : ((isSz q && good q l) && rsn q s) = false) :
    Calls Tryz.prog 14 #[.int .i64 q, v, u] w fun e w' => e = .returned (.tuple #[.slice none 0 0, .bool false]) ∧ Below w.heap.size w w' := by
  cases hg : isSz q && good q l with
  | false =>
    have HP := Lib.hid (validPoly_no q v l w hv hl hg)
    clear hg hv hl hn hu hs
    go_enter Tryz.func14, Tryz.ntmps14
    go_wp2_with fail
    refine HP.out.mono ?_
    rintro e w1 ⟨rfl, hb1⟩
    have hz_hb1 := hb1.size; (try simp at hz_hb1)
    have HB1 := Lib.hid hb1; clear hb1
    go_wp2_with fail
    go_ret2
    have hb1 := HB1.out
    exact ⟨rfl, by (repeat' (first | (with_reducible assumption) | (with_reducible exact Below.refl _ _) | (with_reducible refine below_drewN ?_ _) | (with_reducible refine Below.drew ?_) | (with_reducible refine Below.alloc ?_ ?_ _) | (with_reducible refine Below.setCell ?_ ?_ _) | (with_reducible refine Below.trans ?_ (Below.mono (by assumption) ?_)) | (with_reducible exact Nat.le_refl _) | (with_reducible assumption) | omega | (simp; omega) | (simp; done)))⟩
  | true =>
    rw [hg, Bool.true_and] at hn
    simp only [Bool.and_eq_true] at hg
    have HP := Lib.hid (validPoly_yes q v l w hg.1 hv hg.2)
    have HS := Lib.hid (fun w' (hb : Below w.heap.size w w') => by have := isSetE q u s w' (hu.below hb (Nat.le_refl _)) hs; rw [hn] at this; exact this)
    clear hv hl hn hu hs hg
    go_enter Tryz.func14, Tryz.ntmps14
    go_wp2_with fail
    refine HP.out.mono ?_
    rintro e w1 ⟨g, rfl, hgg, hk1, he1, hb1⟩
    have hz_hb1 := hb1.size; (try simp at hz_hb1)
    have HB1 := Lib.hid hb1; clear hb1 hk1 he1
    go_wp2_with fail
    refine (HS.out _ (by have hb1 := HB1.out; (repeat' (first | (with_reducible assumption) | (with_reducible exact Below.refl _ _) | (with_reducible refine below_drewN ?_ _) | (with_reducible refine Below.drew ?_) | (with_reducible refine Below.alloc ?_ ?_ _) | (with_reducible refine Below.setCell ?_ ?_ _) | (with_reducible refine Below.trans ?_ (Below.mono (by assumption) ?_)) | (with_reducible exact Nat.le_refl _) | (with_reducible assumption) | omega | (simp; omega) | (simp; done))))).mono ?_
    rintro e w2 ⟨rfl, hb2⟩
    have hz_hb2 := hb2.size; (try simp at hz_hb2)
    have HB2 := Lib.hid hb2; clear hb2
    go_wp2
    go_ret2
    have hb1 := HB1.out
    have hb2 := HB2.out
    exact ⟨rfl, by (repeat' (first | (with_reducible assumption) | (with_reducible exact Below.refl _ _) | (with_reducible refine below_drewN ?_ _) | (with_reducible refine Below.drew ?_) | (with_reducible refine Below.alloc ?_ ?_ _) | (with_reducible refine Below.setCell ?_ ?_ _) | (with_reducible refine Below.trans ?_ (Below.mono (by assumption) ?_)) | (with_reducible exact Nat.le_refl _) | (with_reducible assumption) | omega | (simp; omega) | (simp; done)))⟩
set_option maxRecDepth 100000 in
set_option maxHeartbeats 4000000 in
theorem impl_ValuesOfSet_yes (m : Nat) (v u : Value) (l s : List Int) (w : World) (hv : Sl w v l) (hu : Sl w u s) (h : isSz (m : Int) = true) (hg : good (m : Int) l = true) (hs : rsn (m : Int) s = true) :
    Calls Tryz.prog 14 #[.int .i64 m, v, u] w fun e w' => ∃ v', e = .returned (.tuple #[v', .bool true]) ∧ Row w' w.heap.size v' (wh (mt (svs m l s) s.length) m) ∧ Below w.heap.size w w' := by
  have hq := isSz_le (m : Int) h
  have hlen := (good_parts hg).1
  have hsl := rsn_len hs
  have hse := set_el hs
  have hve := svs_el h hg hs
  have HP := Lib.hid (validPoly_yes (m : Int) v l w h hv hg)
  have HS := Lib.hid (fun w' (hb : Below w.heap.size w w') => by have := isSetE (m : Int) u s w' (hu.below hb (Nat.le_refl _)) (by omega); rw [hs] at this; exact this)
  have HM1 := Lib.hid (fun w' (hb : Below w.heap.size w w') => mappedIE (m : Int) u s w' h (hu.below hb (Nat.le_refl _)) (by simp only [rsn, Bool.and_eq_true] at hs; exact hs.1) (by omega))
  have HM2 := Lib.hid (fun g v' w' (hgl : g < w'.heap.size) (he : Els w' g (m : Int) (fun i => l.getD i 0) l.length) (hv' : Se w' v' (m : Int) (fun i => s.getD i 0) s.length) => mapped_at (m : Int) (polyE (m : Int) (.slice (some ⟨g, 0, none⟩) l.length l.length)) v' (fun i => s.getD i 0) (svs m l s) s.length w' hv' (by omega)
    (fun i hi w'' hb'' => atE (m : Int) (s.getD i 0) g l.length l.length (fun i => l.getD i 0) w'' h (hse i hi) (by have := hb''.size; omega) (he.below hb'' hgl) (good_el hg) (by omega)))
  have HC := Lib.hid (fun g w' (hgl : g < w'.heap.size) (he : Els w' g (m : Int) (svs m l s) s.length) => countsInE m g s.length s.length (svs m l s) w' h hgl he hve (by omega))
  have HL := Lib.hid (fun w => listE m (oc (svs m l s) s.length) w h)
  have HIP : Hid (ps (oc (svs m l s) s.length) = mt (svs m l s) s.length) := Lib.hid rfl
  rw [HIP.out] at HL
  clear HIP hv hg h hs hse hve
  obtain ⟨a, cap, rfl⟩ := hu.form
  clear hu
  generalize mt (svs m l s) s.length = M at *
  generalize VA (m : Int) (oc (svs m l s) s.length) = A at *
  generalize svs m l s = t at *
  generalize (fun i => s.getD i 0) = sf at *
  generalize s.length = K at *
  generalize (fun i => l.getD i 0) = f at *
  generalize l.length = n at *
  go_enter Tryz.func14, Tryz.ntmps14
  go_wp2_with fail
  refine HP.out.mono ?_
  rintro e w1 ⟨g, rfl, hgg, hk1, he1, hb1⟩
  have hgl := hk1.lt
  have HE1 := Lib.hid he1; clear he1 hk1
  have hz_hb1 := hb1.size; (try simp at hz_hb1)
  have HB1 := Lib.hid hb1; clear hb1
  go_wp2_with fail
  refine (HS.out _ (by have hb1 := HB1.out; (repeat' (first | (with_reducible assumption) | (with_reducible exact Below.refl _ _) | (with_reducible refine below_drewN ?_ _) | (with_reducible refine Below.drew ?_) | (with_reducible refine Below.alloc ?_ ?_ _) | (with_reducible refine Below.setCell ?_ ?_ _) | (with_reducible refine Below.trans ?_ (Below.mono (by assumption) ?_)) | (with_reducible exact Nat.le_refl _) | (with_reducible assumption) | omega | (simp; omega) | (simp; done))))).mono ?_
  rintro e w2 ⟨rfl, hb2⟩
  have hz2 : w1.heap.size + 1 ≤ w2.heap.size := by have := hb2.size; simp at this; omega
  have HK2 : Hid (w2.heap[w1.heap.size]? = some (pblk (m : Int) (.slice (some ⟨g, 0, none⟩) n n))) := Lib.hid ((hb2.block _ (by simp)).trans (heap_alloc_new w1 _))
  have HB2 : Hid (Below w.heap.size w w2) := Lib.hid (by have hb1 := HB1.out; (repeat' (first | (with_reducible assumption) | (with_reducible exact Below.refl _ _) | (with_reducible refine below_drewN ?_ _) | (with_reducible refine Below.drew ?_) | (with_reducible refine Below.alloc ?_ ?_ _) | (with_reducible refine Below.setCell ?_ ?_ _) | (with_reducible refine Below.trans ?_ (Below.mono (by assumption) ?_)) | (with_reducible exact Nat.le_refl _) | (with_reducible assumption) | omega | (simp; omega) | (simp; done))))
  have HE2 := Lib.hid (HE1.out.below (B := w1.heap.size) (show Below w1.heap.size w1 w2 by (repeat' (first | (with_reducible assumption) | (with_reducible exact Below.refl _ _) | (with_reducible refine below_drewN ?_ _) | (with_reducible refine Below.drew ?_) | (with_reducible refine Below.alloc ?_ ?_ _) | (with_reducible refine Below.setCell ?_ ?_ _) | (with_reducible refine Below.trans ?_ (Below.mono (by assumption) ?_)) | (with_reducible exact Nat.le_refl _) | (with_reducible assumption) | omega | (simp; omega) | (simp; done)))) hgl)
  clear hb2
  have HKEEP : Hid (∀ w', Below w2.heap.size w2 w' → w'.cell? ⟨w1.heap.size, 0, none⟩ = some (.int .i64 m) ∧ w'.cell? ⟨w1.heap.size, 1, none⟩ = some (.int .i64 (pr m)) ∧ w'.cell? ⟨w1.heap.size, 2, none⟩ = some (.int .i64 (pl m)) ∧ w'.cell? ⟨w1.heap.size, 3, none⟩ = some (.slice (some ⟨g, 0, none⟩) n n)) := Lib.hid fun w' hb => by
    obtain ⟨x0, x1, x2, x3, _⟩ := cells4 ((hb.block _ (by omega)).trans HK2.out)
    exact ⟨x0, x1, x2, x3⟩
  obtain ⟨x0, x1, x2, x3⟩ := HKEEP.out w2 (Below.refl _ _)
  go_wp2_with fail
  go_region_held3 (fun w' => w'.cell? ⟨w1.heap.size, 0, none⟩ = some (.int .i64 m) ∧ w'.cell? ⟨w1.heap.size, 1, none⟩ = some (.int .i64 (pr m)) ∧ w'.cell? ⟨w1.heap.size, 2, none⟩ = some (.int .i64 (pl m)) ∧ w'.cell? ⟨w1.heap.size, 3, none⟩ = some (.slice (some ⟨g, 0, none⟩) n n))
    (exact HKEEP.out _ (by (try have hb3 := HB3.out); (try have hb4 := HB4.out); (try have hb5 := HB5.out); (try have hb6 := HB6.out); (repeat' (first | (with_reducible assumption) | (with_reducible exact Below.refl _ _) | (with_reducible refine below_drewN ?_ _) | (with_reducible refine Below.drew ?_) | (with_reducible refine Below.alloc ?_ ?_ _) | (with_reducible refine Below.setCell ?_ ?_ _) | (with_reducible refine Below.trans ?_ (Below.mono (by assumption) ?_)) | (with_reducible exact Nat.le_refl _) | (with_reducible assumption) | omega | (simp; omega) | (simp; done)))))
    (first
    | (go_at_call 83; refine (HM1.out _ (by have hb2 := HB2.out; (repeat' (first | (with_reducible assumption) | (with_reducible exact Below.refl _ _) | (with_reducible refine below_drewN ?_ _) | (with_reducible refine Below.drew ?_) | (with_reducible refine Below.alloc ?_ ?_ _) | (with_reducible refine Below.setCell ?_ ?_ _) | (with_reducible refine Below.trans ?_ (Below.mono (by assumption) ?_)) | (with_reducible exact Nat.le_refl _) | (with_reducible assumption) | omega | (simp; omega) | (simp; done))))).mono ?_; rintro e w3 ⟨g3, rfl, hg3, hk3, he3, hb3⟩; have HSE3 : Hid (Se w3 (.slice (some ⟨g3, 0, none⟩) K K) (m : Int) sf K) := Lib.hid ⟨g3, _, rfl, hk3.lt, he3⟩; clear hk3 he3; obtain ⟨hc3, hf3⟩ := bcell hb3; (try simp only [World.size_drew] at hc3 hf3); have hz3 := hb3.size; (try simp at hz3); have HB3 := Lib.hid hb3; clear hb3; have l3 : w1.heap.size < w3.heap.size := (by omega))
    | (go_at_call 82; refine (HM2.out g _ _ (by omega) (HE2.out.below (B := w2.heap.size) (by have hb3 := HB3.out; (repeat' (first | (with_reducible assumption) | (with_reducible exact Below.refl _ _) | (with_reducible refine below_drewN ?_ _) | (with_reducible refine Below.drew ?_) | (with_reducible refine Below.alloc ?_ ?_ _) | (with_reducible refine Below.setCell ?_ ?_ _) | (with_reducible refine Below.trans ?_ (Below.mono (by assumption) ?_)) | (with_reducible exact Nat.le_refl _) | (with_reducible assumption) | omega | (simp; omega) | (simp; done)))) (by omega)) HSE3.out).mono ?_; rintro e w4 ⟨g4, rfl, hg4, hk4, he4, hb4⟩; have hgl4 := hk4.lt; have HE4 := Lib.hid he4; clear hk4 he4; obtain ⟨hc4, hf4⟩ := bcell hb4; (try simp only [World.size_drew] at hc4 hf4); have hz4 := hb4.size; (try simp at hz4); have HB4 := Lib.hid hb4; clear hb4; have l4 : w1.heap.size < w4.heap.size := (by omega))
    | (go_at_call 81; refine (HC.out g4 _ hgl4 HE4.out).mono ?_; rintro e w5 ⟨rfl, hb5⟩; obtain ⟨hc5, hf5⟩ := bcell hb5; (try simp only [World.size_drew] at hc5 hf5); have hz5 := hb5.size; (try simp at hz5); have HB5 := Lib.hid hb5; clear hb5; have l5 : w1.heap.size < w5.heap.size := (by omega))
    | (go_at_call 78; refine (HL.out _).mono ?_; rintro e w6 ⟨v6, rfl, hr6, hb6⟩; have HR6 := Lib.hid hr6; clear hr6; obtain ⟨hc6, hf6⟩ := bcell hb6; (try simp only [World.size_drew] at hc6 hf6); have hz6 := hb6.size; (try simp at hz6); have HB6 := Lib.hid hb6; clear hb6; have l6 : w1.heap.size < w6.heap.size := (by omega)))
  all_goals
    go_wp2
    go_ret2
    have hb2 := HB2.out
    have hb3 := HB3.out
    have hb4 := HB4.out
    have hb5 := HB5.out
    have hb6 := HB6.out
    exact ⟨_, rfl, HR6.out.mono (by (try simp); omega), by (repeat' (first | (with_reducible assumption) | (with_reducible exact Below.refl _ _) | (with_reducible refine below_drewN ?_ _) | (with_reducible refine Below.drew ?_) | (with_reducible refine Below.alloc ?_ ?_ _) | (with_reducible refine Below.setCell ?_ ?_ _) | (with_reducible refine Below.trans ?_ (Below.mono (by assumption) ?_)) | (with_reducible exact Nat.le_refl _) | (with_reducible assumption) | omega | (simp; omega) | (simp; done)))⟩
set_option maxRecDepth 100000 in
set_option maxHeartbeats 4000000 in
theorem spec_ValuesOfSet_yes (m : Nat) (v u : Value) (l s : List Int) (w : World) (hv : Sl w v l) (hu : Sl w u s) (h : isSz (m : Int) = true) (hg : good (m : Int) l = true) (hs : rsn (m : Int) s = true) :
    Calls Tryz.prog 15 #[.int .i64 m, v, u] w fun e w' => ∃ v', e = .returned (.tuple #[v', .bool true]) ∧ Row w' w.heap.size v' (wh (mt (svs m l s) s.length) m) ∧ Below w.heap.size w w' := by
  have hq := isSz_le (m : Int) h
  have hlen := (good_parts hg).1
  have hsl := rsn_len hs
  have hse := set_el hs
  have hve := svs_el h hg hs
  have hp := plGood_any (m : Int) v l w hv (by omega)
  rw [h, hg] at hp
  have HP := Lib.hid hp
  have HS := Lib.hid (fun w' (hb : Below w.heap.size w w') => by have := vaRising_any (m : Int) u s w' (hu.below hb (Nat.le_refl _)) (by omega); rw [h, hs] at this; exact this)
  have HA := Lib.hid (fun i w' (hi : i < s.length) (hb : Below w.heap.size w w') => plAt_any (m : Int) (s.getD i 0) v (fun i => l.getD i 0) l.length l w' h (hse i hi) (hv.below hb (Nat.le_refl _)) rfl (fun _ _ => rfl) (good_el hg) (by omega))
  have HSV : Hid (∀ i, hor (m : Int) (s.getD i 0) (fun i => l.getD i 0) l.length l.length = svs m l s i) := Lib.hid fun _ => rfl
  have HV := Lib.hid (fun v' w' (hr : Sl w' v' (fl (svs m l s) s.length)) => vaValues_any m s.length v' (svs m l s) w' (by omega) hr hve (by omega))
  simp only [HSV.out] at HA
  obtain ⟨i0, hi, iz0, iz1, iz2⟩ := info_parts Tryz.infoI
  obtain ⟨a, cap, rfl, hcc⟩ := hu.tell.parts
  have HC := Lib.hid hcc
  clear hp hv hg hu h hs hse hve HSV hcc
  have HF0 : Hid (fl (svs m l s) 0 = []) := Lib.hid rfl
  have HFS := Lib.hid (fl_succ (svs m l s))
  have HFL := Lib.hid (fl_len (svs m l s))
  generalize wh (mt (svs m l s) s.length) m = R at *
  generalize svs m l s = t at *
  generalize s.length = K at *
  go_enter Tryz.func15, Tryz.ntmps15
  go_wp2_with fail
  refine HP.out.mono ?_
  rintro e w1 ⟨rfl, hb1⟩
  have hz_hb1 := hb1.size; (try simp at hz_hb1)
  have HB1 := Lib.hid hb1; clear hb1
  go_wp2_with fail
  refine (HS.out _ HB1.out).mono ?_
  rintro e w2 ⟨rfl, hb2⟩
  have hz_hb2 := hb2.size; (try simp at hz_hb2)
  have HB2 : Hid (Below w.heap.size w w2) := Lib.hid (HB1.out.trans (hb2.mono hz_hb1)); clear hb2
  have hz2 := HB2.out.size
  go_wp2_with fail
  go_loopw [8, 23] (fun vo vi wr => ∃ k : Nat, k ≤ K ∧ vi = .int .i64 k ∧ Row wr w2.heap.size vo (fl t k) ∧ Below w2.heap.size w2 wr) (fun _ vi _ => K - (intOf vi).toNat)
  case atStart => exact ⟨0, Nat.zero_le _, rfl, by rw [HF0.out]; exact Row.nil _ _, Below.refl _ _⟩
  case round =>
    obtain ⟨k, hk, rfl, hr, hbw⟩ := hrel
    have hz := hbw.size
    have HLn := HFL.out k
    have HR := Lib.hid hr; clear hr
    have HBW := Lib.hid hbw
    have HBWW : Hid (Below w.heap.size w wr) := Lib.hid (HB2.out.trans (hbw.mono hz2))
    clear hbw
    by_cases hlt : k < K
    · obtain ⟨b, off, rfl, hb, hc⟩ := HC.out (by omega)
      have hck := (HBWW.out.cell (p := ⟨b, off + k, none⟩) hb).trans (hc k hlt)
      have HA' := Lib.hid (HA.out k wr hlt HBWW.out)
      have HFS' := Lib.hid (HFS.out k)
      clear hc
      generalize t k = y at *
      go_wp2_with fail
      refine HA'.out.mono ?_
      rintro e w5 ⟨rfl, hb5⟩
      have hz_hb5 := hb5.size; (try simp at hz_hb5)
      have HR5 := Lib.hid (HR.out.below hb5)
      have HB5 : Hid (Below w2.heap.size w2 w5) := Lib.hid (HBW.out.trans (hb5.mono hz))
      clear hb5
      go_wp2_with (at_builtin; refine wpList_append_own _ rfl _ _ 24 rfl w2.heap.size 3 i0 (.int .i64 0) 1 8 Tryz.underlying24 hi iz0 iz1 iz2 rfl (by decide) _ _ _ rfl (World.ownsRow.alloc HR5.out _) ⟨w5.heap.size, 0, none⟩ 1 1 [.int .i64 y] rfl rfl ?c1 ?c2 ?c3 ?c4 ?c5 ?_)
      case c1 => exact cell_one_new _ _ _
      case c2 => intro u hu; simp at hu; subst hu; rfl
      case c3 => unfold maxLen; omega
      case c4 => omega
      case c5 => simp; omega
      intro v' w6 hown hgrow _
      have HR6 := Lib.hid (Row.appended (l := fl t k) (by rw [HLn]; exact hown))
      have hb : Below w2.heap.size w2 (w5.alloc (.cells #[.int .i64 y] 3)) := HB5.out.alloc (by omega) _
      have HB6 := Lib.hid (hb.grown hgrow (by simp; omega) (fun g hg => (HR5.out.lt g hg).1))
      clear hown hgrow hb
      go_wp2
      go_roundw
      case rel => exact ⟨k + 1, by omega, by go_num, by rw [HFS'.out]; exact HR6.out, HB6.out⟩
      case measure => simp [intOf]; omega
    · obtain rfl : K = k := by omega
      go_wp2_with fail
      refine (HV.out _ _ HR.out.sl).mono ?_
      rintro e w7 ⟨v7, rfl, hr7, hb7⟩
      have HR7 := Lib.hid hr7
      have HB7 : Hid (Below w.heap.size w w7) := Lib.hid (HBWW.out.trans (hb7.mono HBWW.out.size))
      clear hr7 hb7
      go_wp2
      go_ret2
      exact ⟨_, rfl, HR7.out.mono HBWW.out.size, HB7.out⟩
theorem key_ValuesOfSet (q : Int) (l_f : List Int) (b_f : l_f.length ≤ 1048576) (l_set : List Int) (b_set : l_set.length ≤ 1048576) : ∃ (r : List Int) (o : Bool), r.length ≤ 1048576 ∧ (∀ (w : World) (v_f : Value) (_ : Sl w v_f l_f) (v_set : Value) (_ : Sl w v_set l_set), Calls Tryz.prog 15 #[.int .i64 q, v_f, v_set] w fun e w' => ∃ v, e = .returned (.tuple #[v, .bool o]) ∧ Row w' w.heap.size v r ∧ Below w.heap.size w w') ∧
      (∀ (w : World) (v_f : Value) (_ : Sl w v_f l_f) (v_set : Value) (_ : Sl w v_set l_set), Calls Tryz.prog 14 #[.int .i64 q, v_f, v_set] w fun e w' => ∃ v, e = .returned (.tuple #[v, .bool o]) ∧ Row w' w.heap.size v r ∧ Below w.heap.size w w') := by
  cases h : (isSz q && good q l_f) && rsn q l_set with
  | false => exact ⟨[], false, by simp, fun w v hv u hu => (spec_ValuesOfSet_no q v u l_f l_set w hv b_f hu b_set h).mono (by rintro e w' ⟨rfl, hb⟩; exact ⟨_, rfl, Row.nil _ _, hb⟩), fun w v hv u hu => (impl_ValuesOfSet_no q v u l_f l_set w hv b_f hu b_set h).mono (by rintro e w' ⟨rfl, hb⟩; exact ⟨_, rfl, Row.nil _ _, hb⟩)⟩
  | true =>
    simp only [Bool.and_eq_true] at h
    have hq := isSz_le q h.1.1
    obtain ⟨m, rfl⟩ := Int.eq_ofNat_of_zero_le (show 0 ≤ q by omega)
    exact ⟨_, true, Nat.le_trans (wh_len _ _) (by omega), fun w v hv u hu => spec_ValuesOfSet_yes m v u l_f l_set w hv hu h.1.1 h.1.2 h.2, fun w v hv u hu => impl_ValuesOfSet_yes m v u l_f l_set w hv hu h.1.1 h.1.2 h.2⟩
/-- The table with a list's elements in order, then the last one. -/
def wt (l : List Int) : Nat → Int := fun x => l.getD (min x (l.length - 1)) 0
theorem wt_el {m : Nat} {l : List Int} (h : rsn (m : Int) l = true) (h0 : 0 < l.length) (i : Nat) : El (m : Int) (wt l i) := by
  simp only [rsn, Bool.and_eq_true] at h
  have hi : min i (l.length - 1) < l.length := by omega
  have := List.all_eq_true.1 h.1 _ (show l.getD (min i (l.length - 1)) 0 ∈ l by rw [show l.getD (min i (l.length - 1)) 0 = l[min i (l.length - 1)] by simp [List.getD, hi]]; exact List.getElem_mem hi)
  simp only [inF, Bool.and_eq_true, decide_eq_true_iff] at this
  exact this
def wvOK (q : Int) (l : List Int) : Bool := (isSz q && rsn q l) && !decide (l.length = 0)
theorem l1Least_any (a b : Int) (w : World) : Calls Tryz.prog 75 #[.int .i64 a, .int .i64 b] w fun e w' => e = .returned (.int .i64 (min a b)) ∧ w = w' := by
  by_cases h : a < b
  · rw [show min a b = a by omega]
    go_enter Tryz.func75, Tryz.ntmps75
    go_wp2
    go_ret
    exact ⟨rfl, rfl⟩
  · rw [show min a b = b by omega]
    go_enter Tryz.func75, Tryz.ntmps75
    go_wp2
    go_ret
    exact ⟨rfl, rfl⟩
theorem spec_WithValues_no (q : Int) (v : Value) (l : List Int) (w : World) (hv : Sl w v l) (hl : l.length ≤ 1048576) (h : wvOK q l = false) :
    Calls Tryz.prog 10 #[.int .i64 q, v] w fun e w' => e = .returned (.tuple #[.slice none 0 0, .bool false]) ∧ Below w.heap.size w w' := by
  have hp := vaRising_any q v l w hv hl
  obtain ⟨a, cap, rfl⟩ := hv.form
  cases hr : isSz q && rsn q l with
  | false =>
    rw [hr] at hp
    have HP := Lib.hid hp
    clear hp hr hv h
    go_enter Tryz.func10, Tryz.ntmps10
    go_wp2_with fail
    refine HP.out.mono ?_
    rintro e w1 ⟨rfl, hb1⟩
    go_wp2
    go_ret2
    exact ⟨rfl, hb1⟩
  | true =>
    rw [hr] at hp
    have h0 : l.length = 0 := by
      simp only [wvOK, hr, Bool.true_and] at h
      simpa using h
    have HP := Lib.hid hp
    clear hp hr hv h
    generalize l.length = n at *
    subst h0
    go_enter Tryz.func10, Tryz.ntmps10
    go_wp2_with fail
    refine HP.out.mono ?_
    rintro e w1 ⟨rfl, hb1⟩
    go_wp2
    go_ret2
    exact ⟨rfl, hb1⟩
set_option maxRecDepth 100000 in
set_option maxHeartbeats 4000000 in
theorem spec_WithValues_yes (m : Nat) (v : Value) (l : List Int) (w : World) (hv : Sl w v l) (h : isSz (m : Int) = true) (hr : rsn (m : Int) l = true) (h0 : 0 < l.length) :
    Calls Tryz.prog 10 #[.int .i64 m, v] w fun e w' => ∃ v', e = .returned (.tuple #[v', .bool true]) ∧ Row w' w.heap.size v' (ftl m (wt l)) ∧ Below w.heap.size w w' := by
  have hq := isSz_le (m : Int) h
  have hsl := rsn_len hr
  have hp := vaRising_any (m : Int) v l w hv (by omega)
  rw [h, hr] at hp
  have HP := Lib.hid hp
  have hwt := wt_el hr h0
  have HF := Lib.hid (fun v' w' (hs : Sl w' v' (fl (wt l) m)) => plFromT m v' (wt l) w' h hs (fun i _ => hwt i))
  have HL := Lib.hid (fun a b w => l1Least_any a b w)
  have HW : Hid (∀ i, wt l i = l.getD (min i (l.length - 1)) 0) := Lib.hid fun _ => rfl
  obtain ⟨i0, hi, iz0, iz1, iz2⟩ := info_parts Tryz.infoI
  obtain ⟨b, off, cap, rfl, hb, hcc⟩ := hv.open rfl h0
  have HC := Lib.hid hcc
  clear hp hv h hr hwt hcc
  have HF0 : Hid (fl (wt l) 0 = []) := Lib.hid rfl
  have HFS := Lib.hid (fl_succ (wt l))
  have HFL := Lib.hid (fl_len (wt l))
  generalize ftl m (wt l) = R at *
  generalize wt l = t at *
  generalize l.length = n at *
  have hwn : IntKind.i64.wrap ((n : Int) - 1) = (n : Int) - 1 := IntWalk.i64_in _ (by omega)
  have hn0 : ¬ n = 0 := by omega
  have hnb : ((n : Int) == 0) = false := by simp; omega
  go_enter Tryz.func10, Tryz.ntmps10
  go_wp2_with fail
  refine HP.out.mono ?_
  rintro e w1 ⟨rfl, hb1⟩
  have HB1 := Lib.hid hb1; clear hb1
  have hz1 := HB1.out.size
  go_wp2_with fail
  go_loopw [6, 7] (fun vo vi wr => ∃ k : Nat, k ≤ m ∧ vi = .int .i64 k ∧ Row wr w1.heap.size vo (fl t k) ∧ Below w1.heap.size w1 wr) (fun _ vi _ => m - (intOf vi).toNat)
  case atStart => exact ⟨0, Nat.zero_le _, rfl, by rw [HF0.out]; exact Row.nil _ _, Below.refl _ _⟩
  case round =>
    obtain ⟨k, hk, rfl, hr, hbw⟩ := hrel
    have hz := hbw.size
    have HLn := HFL.out k
    have HR := Lib.hid hr; clear hr
    have HBW := Lib.hid hbw
    have HBWW : Hid (Below w.heap.size w wr) := Lib.hid (HB1.out.trans (hbw.mono hz1))
    clear hbw
    by_cases hlt : k < m
    · obtain ⟨j, hj⟩ : ∃ j, j = min k (n - 1) := ⟨_, rfl⟩
      have hjn : j < n := by omega
      have hck := (HBWW.out.cell (p := ⟨b, off + j, none⟩) hb).trans (HC.out j hjn)
      have hW := HW.out k
      rw [← hj] at hW
      rw [← hW] at hck
      have HFS' := Lib.hid (HFS.out k)
      have HL' : Hid (∀ w, Calls Tryz.prog 75 #[.int .i64 k, .int .i64 ((n : Int) - 1)] w fun e w' => e = .returned (.int .i64 j) ∧ w = w') := Lib.hid fun w => by
        have := HL.out (k : Int) ((n : Int) - 1) w
        rwa [show min (k : Int) ((n : Int) - 1) = (j : Int) by omega] at this
      clear hW hj
      generalize t k = y at *
      go_wp2_with fail
      refine (HL'.out _).mono ?_
      rintro e _ ⟨rfl, rfl⟩
      go_wp2_with (at_builtin; refine wpList_append_own _ rfl _ _ 24 rfl w1.heap.size 3 i0 (.int .i64 0) 1 8 Tryz.underlying24 hi iz0 iz1 iz2 rfl (by decide) _ _ _ rfl (World.ownsRow.alloc HR.out _) ⟨wr.heap.size, 0, none⟩ 1 1 [.int .i64 y] rfl rfl ?c1 ?c2 ?c3 ?c4 ?c5 ?_)
      case c1 => exact cell_one_new _ _ _
      case c2 => intro u hu; simp at hu; subst hu; rfl
      case c3 => unfold maxLen; omega
      case c4 => omega
      case c5 => simp; omega
      intro v' w6 hown hgrow _
      have HR6 := Lib.hid (Row.appended (l := fl t k) (by rw [HLn]; exact hown))
      have hb : Below w1.heap.size w1 (wr.alloc (.cells #[.int .i64 y] 3)) := HBW.out.alloc (by omega) _
      have HB6 := Lib.hid (hb.grown hgrow (by simp; omega) (fun g hg => (HR.out.lt g hg).1))
      clear hown hgrow hb
      go_wp2
      go_roundw
      case rel => exact ⟨k + 1, by omega, by go_num, by rw [HFS'.out]; exact HR6.out, HB6.out⟩
      case measure => simp [intOf]; omega
    · obtain rfl : m = k := by omega
      go_wp2_with fail
      refine (HF.out _ _ HR.out.sl).mono ?_
      rintro e w7 ⟨v7, rfl, hr7, hb7⟩
      have HR7 := Lib.hid hr7
      have HB7 : Hid (Below w.heap.size w w7) := Lib.hid (HBWW.out.trans (hb7.mono HBWW.out.size))
      clear hr7 hb7
      go_wp2
      go_ret2
      exact ⟨_, rfl, HR7.out.mono HBWW.out.size, HB7.out⟩
set_option maxHeartbeats 1000000 in
/-- impl.listOf at impl.WithValues$1. -/
theorem listOf_WV (q : Int) (n : Nat) (f : Nat → Int) (A0 A1 A2 : Nat) (w : World) (hn : n ≤ 1000) (HX : ∀ (i : Nat) w', i < n → Below w.heap.size w w' → Calls Tryz.prog 70 #[.int .i64 i, .pointer (some ⟨A0, 0, none⟩), .pointer (some ⟨A1, 0, none⟩), .pointer (some ⟨A2, 0, none⟩)] w' fun e w'' => e = .returned (elE q (f i)) ∧ Below w'.heap.size w' w'') :
    Calls Tryz.prog 69 #[.int .i64 n, .func (.func 70) #[] #[.pointer (some ⟨A0, 0, none⟩), .pointer (some ⟨A1, 0, none⟩), .pointer (some ⟨A2, 0, none⟩)]] w fun e w' => e = .returned (.slice (some ⟨w.heap.size, 0, none⟩) n n) ∧ Blk w' w.heap.size n ∧ Els w' w.heap.size q f n ∧ Below w.heap.size w w' := by
  obtain ⟨i0, hi, iz0, iz1, iz2⟩ := info_parts Tryz.infoE
  have HXX := Lib.hid HX; clear HX
  go_enter Tryz.func69, Tryz.ntmps69
  go_wp2_with (at_make; go_must (refine wpList_make_full _ rfl _ _ 65 rfl w.heap.size 70 i0 (.agg #[.int .i64 0, .int .i64 0, .int .i64 0, .int .i64 0, .int .i64 0, .int .i64 0, .int .i64 0]) 7 Tryz.underlying65 hi iz0 iz1 .i64 .i64 _ _ n rfl rfl rfl rfl ?c3 ?c4 ?c5 ?_))
  case c3 => rw [iz2]; omega
  case c4 => unfold maxLen; omega
  case c5 => simp
  intro w1 hown hgrow
  have hblk : Blk w1 w.heap.size n := by
    rcases hown.2 with ⟨hx, _⟩ | ⟨g, cap, cur, hx, _, hh, _, _, hsz, _⟩
    · simp at hx
    · simp at hx
      obtain ⟨rfl, rfl⟩ := hx
      exact ⟨cur, hh, hsz⟩
  have hb : Below w.heap.size w w1 := (Below.refl _ _).grown hgrow (Nat.le_refl _) (fun k hk => by cases hk)
  have HB1 := Lib.hid hblk
  have HW1 := Lib.hid hb
  clear hown hgrow hblk hb
  go_wp2_with fail
  go_loopw [11] (fun vi wr => ∃ i : Nat, i ≤ n ∧ vi = .int .i64 i ∧ Blk wr w.heap.size n ∧ Els wr w.heap.size q f i ∧ Below w.heap.size w wr) (fun vi _ => n - (intOf vi).toNat)
  case atStart => exact ⟨0, Nat.zero_le _, rfl, HB1.out, fun j hj => by omega, HW1.out⟩
  case round =>
    obtain ⟨i, hi, rfl, hk, he, hb⟩ := hrel
    have HK := Lib.hid hk; clear hk
    have HEl := Lib.hid he; clear he
    have HB := Lib.hid hb; clear hb
    by_cases hlt : i < n
    · have HX' := Lib.hid (HXX.out i _ hlt HB.out)
      have hlt1 := HK.out.lt
      go_wp2_with fail
      refine HX'.out.mono ?_
      rintro e w2 ⟨rfl, hb2⟩
      have hk2 : Blk w2 w.heap.size n := HK.out.below hb2 hlt1
      have he2 : Els w2 w.heap.size q f i := HEl.out.below hb2 hlt1
      have HB2 := Lib.hid (HB.out.trans (hb2.mono HB.out.size))
      clear hb2
      obtain ⟨x0, c0⟩ := hk2.at (i * 7) (by omega)
      obtain ⟨x1, c1⟩ := hk2.at (i * 7 + 1) (by omega)
      obtain ⟨x2, c2⟩ := hk2.at (i * 7 + 2) (by omega)
      obtain ⟨x3, c3⟩ := hk2.at (i * 7 + 3) (by omega)
      obtain ⟨x4, c4⟩ := hk2.at (i * 7 + 4) (by omega)
      obtain ⟨x5, c5⟩ := hk2.at (i * 7 + 5) (by omega)
      obtain ⟨x6, c6⟩ := hk2.at (i * 7 + 6) (by omega)
      have fr := hk2.free
      have HST := Lib.hid (Els.step (f := f) hk2 hlt he2)
      clear hk2 he2
      generalize f i = x at *
      go_wp2
      go_roundw
      case rel => exact ⟨i + 1, by omega, by go_num, HST.out.2, HST.out.1, put7i_below HB2.out _ (Nat.le_refl _) _ _ _⟩
      case measure => simp [intOf]; omega
    · obtain rfl : n = i := by omega
      go_wp2
      go_ret
      exact ⟨rfl, HK.out, HEl.out, HB.out⟩


set_option maxRecDepth 100000 in
set_option maxHeartbeats 4000000 in
/-- The closure of impl.WithValues. -/
theorem wvClo (m i j k n b off cap F V L : Nat) (y : Int) (w : World) (h : isSz (m : Int) = true) (hy : El (m : Int) y) (hkn : k < n) (_hi : i ≤ 1000) (hj : (k < i ∧ j = k) ∨ (¬ k < i ∧ j = i))
    (hc : w.cell? ⟨b, off + j, none⟩ = some (.int .i64 y)) (hF : w.heap[F]? = some (ffblk (m : Int))) (hV : w.cell? ⟨V, 0, none⟩ = some (.slice (some ⟨b, off, none⟩) n cap)) (hL : w.cell? ⟨L, 0, none⟩ = some (.int .i64 (k : Int))) :
    Calls Tryz.prog 70 #[.int .i64 i, .pointer (some ⟨F, 0, none⟩), .pointer (some ⟨V, 0, none⟩), .pointer (some ⟨L, 0, none⟩)] w fun e w' => e = .returned (elE (m : Int) y) ∧ Below w.heap.size w w' := by
  have hq := isSz_le (m : Int) h
  have HE := Lib.hid (fun w => elementE (m : Int) y w h hy.1 hy.2)
  have lF : F < w.heap.size := (Array.getElem?_eq_some_iff.1 hF).1
  have lb := World.block_lt_of_cell? w _ hc
  have lV := World.block_lt_of_cell? w _ hV
  have lL := World.block_lt_of_cell? w _ hL
  simp only at lb lV lL
  have HKEEP : Hid (∀ w', Below w.heap.size w w' → w'.cell? ⟨F, 0, none⟩ = some (.int .i64 m) ∧ w'.cell? ⟨F, 1, none⟩ = some (.int .i64 (pr m)) ∧ w'.cell? ⟨F, 2, none⟩ = some (.int .i64 (pl m)) ∧ w'.cell? ⟨V, 0, none⟩ = some (.slice (some ⟨b, off, none⟩) n cap) ∧ w'.cell? ⟨L, 0, none⟩ = some (.int .i64 (k : Int)) ∧ w'.cell? ⟨b, off + j, none⟩ = some (.int .i64 y)) := Lib.hid fun w' hb => by
    obtain ⟨x0, x1, x2, _⟩ := cells3' ((hb.block _ lF).trans hF)
    exact ⟨x0, x1, x2, (hb.cell (p := ⟨V, 0, none⟩) lV).trans hV, (hb.cell (p := ⟨L, 0, none⟩) lL).trans hL, (hb.cell (p := ⟨b, off + j, none⟩) lb).trans hc⟩
  clear h hy hF hV hL hc
  have hjn : j < n := by omega
  have hjn' : (j : Int) < (n : Int) := by omega
  have hj0 : (0 : Int) ≤ (j : Int) := by omega
  rcases hj with ⟨hki, rfl⟩ | ⟨hki, rfl⟩
  · skip
    go_enter Tryz.func70, Tryz.ntmps70
    go_wp2_with fail
    go_region_held3 (fun w' => w'.cell? ⟨F, 0, none⟩ = some (.int .i64 m) ∧ w'.cell? ⟨F, 1, none⟩ = some (.int .i64 (pr m)) ∧ w'.cell? ⟨F, 2, none⟩ = some (.int .i64 (pl m)) ∧ w'.cell? ⟨V, 0, none⟩ = some (.slice (some ⟨b, off, none⟩) n cap) ∧ w'.cell? ⟨L, 0, none⟩ = some (.int .i64 (j : Int)) ∧ w'.cell? ⟨b, off + j, none⟩ = some (.int .i64 y))
      (exact HKEEP.out _ (by (try have hb1 := HB1.out); (repeat' (first | (with_reducible assumption) | (with_reducible exact Below.refl _ _) | (with_reducible refine below_drewN ?_ _) | (with_reducible refine Below.drew ?_) | (with_reducible refine Below.alloc ?_ ?_ _) | (with_reducible refine Below.setCell ?_ ?_ _) | (with_reducible refine Below.trans ?_ (Below.mono (by assumption) ?_)) | (with_reducible exact Nat.le_refl _) | (with_reducible assumption) | omega | (simp; omega) | (simp; done)))))
      (first
      | (go_at_call 71; refine (HE.out _).mono ?_; rintro e w1 ⟨rfl, hb1⟩; obtain ⟨hc1, hf1⟩ := bcell hb1; (try simp only [World.size_drew] at hc1 hf1); have hz1 := hb1.size; (try simp at hz1); have HB1 := Lib.hid hb1; clear hb1; have l1 : w.heap.size < w1.heap.size := (by omega)))
    all_goals
      go_wp2_with fail
      have hb1 := HB1.out
      have q0 : w1.heap[w.heap.size]? = some zeroblk := (Below.block (B := w.heap.size + 1) (w := w.alloc zeroblk) (by (repeat' (first | (with_reducible assumption) | (with_reducible exact Below.refl _ _) | (with_reducible refine below_drewN ?_ _) | (with_reducible refine Below.drew ?_) | (with_reducible refine Below.alloc ?_ ?_ _) | (with_reducible refine Below.setCell ?_ ?_ _) | (with_reducible refine Below.trans ?_ (Below.mono (by assumption) ?_)) | (with_reducible exact Nat.le_refl _) | (with_reducible assumption) | omega | (simp; omega) | (simp; done)))) w.heap.size (by omega)).trans (heap_alloc_new w _)
      obtain ⟨s0, s1, s2, s3, s4, s5, s6, sf, sl⟩ := seven q0
      clear q0
      refine bodyPost_ret (v := elE (m : Int) y) (by simp [results, Tryz.results70, go_sem, s0, s1, s2, s3, s4, s5, s6]) rfl ⟨rfl, ?_⟩
      (repeat' (first | (with_reducible assumption) | (with_reducible exact Below.refl _ _) | (with_reducible refine below_drewN ?_ _) | (with_reducible refine Below.drew ?_) | (with_reducible refine Below.alloc ?_ ?_ _) | (with_reducible refine Below.setCell ?_ ?_ _) | (with_reducible refine Below.trans ?_ (Below.mono (by assumption) ?_)) | (with_reducible exact Nat.le_refl _) | (with_reducible assumption) | omega | (simp; omega) | (simp; done)))
  · skip
    go_enter Tryz.func70, Tryz.ntmps70
    go_wp2_with fail
    go_region_held3 (fun w' => w'.cell? ⟨F, 0, none⟩ = some (.int .i64 m) ∧ w'.cell? ⟨F, 1, none⟩ = some (.int .i64 (pr m)) ∧ w'.cell? ⟨F, 2, none⟩ = some (.int .i64 (pl m)) ∧ w'.cell? ⟨V, 0, none⟩ = some (.slice (some ⟨b, off, none⟩) n cap) ∧ w'.cell? ⟨L, 0, none⟩ = some (.int .i64 (k : Int)) ∧ w'.cell? ⟨b, off + j, none⟩ = some (.int .i64 y))
      (exact HKEEP.out _ (by (try have hb1 := HB1.out); (repeat' (first | (with_reducible assumption) | (with_reducible exact Below.refl _ _) | (with_reducible refine below_drewN ?_ _) | (with_reducible refine Below.drew ?_) | (with_reducible refine Below.alloc ?_ ?_ _) | (with_reducible refine Below.setCell ?_ ?_ _) | (with_reducible refine Below.trans ?_ (Below.mono (by assumption) ?_)) | (with_reducible exact Nat.le_refl _) | (with_reducible assumption) | omega | (simp; omega) | (simp; done)))))
      (first
      | (go_at_call 71; refine (HE.out _).mono ?_; rintro e w1 ⟨rfl, hb1⟩; obtain ⟨hc1, hf1⟩ := bcell hb1; (try simp only [World.size_drew] at hc1 hf1); have hz1 := hb1.size; (try simp at hz1); have HB1 := Lib.hid hb1; clear hb1; have l1 : w.heap.size < w1.heap.size := (by omega)))
    all_goals
      go_wp2_with fail
      have hb1 := HB1.out
      have q0 : w1.heap[w.heap.size]? = some zeroblk := (Below.block (B := w.heap.size + 1) (w := w.alloc zeroblk) (by (repeat' (first | (with_reducible assumption) | (with_reducible exact Below.refl _ _) | (with_reducible refine below_drewN ?_ _) | (with_reducible refine Below.drew ?_) | (with_reducible refine Below.alloc ?_ ?_ _) | (with_reducible refine Below.setCell ?_ ?_ _) | (with_reducible refine Below.trans ?_ (Below.mono (by assumption) ?_)) | (with_reducible exact Nat.le_refl _) | (with_reducible assumption) | omega | (simp; omega) | (simp; done)))) w.heap.size (by omega)).trans (heap_alloc_new w _)
      obtain ⟨s0, s1, s2, s3, s4, s5, s6, sf, sl⟩ := seven q0
      clear q0
      refine bodyPost_ret (v := elE (m : Int) y) (by simp [results, Tryz.results70, go_sem, s0, s1, s2, s3, s4, s5, s6]) rfl ⟨rfl, ?_⟩
      (repeat' (first | (with_reducible assumption) | (with_reducible exact Below.refl _ _) | (with_reducible refine below_drewN ?_ _) | (with_reducible refine Below.drew ?_) | (with_reducible refine Below.alloc ?_ ?_ _) | (with_reducible refine Below.setCell ?_ ?_ _) | (with_reducible refine Below.trans ?_ (Below.mono (by assumption) ?_)) | (with_reducible exact Nat.le_refl _) | (with_reducible assumption) | omega | (simp; omega) | (simp; done)))
theorem impl_WithValues_no (q : Int) (v : Value) (l : List Int) (w : World) (hv : Sl w v l) (hl : l.length ≤ 1048576) (h : wvOK q l = false) :
    Calls Tryz.prog 9 #[.int .i64 q, v] w fun e w' => e = .returned (.tuple #[.slice none 0 0, .bool false]) ∧ Below w.heap.size w w' := by
  obtain ⟨a, cap, rfl⟩ := hv.form
  cases hz : isSz q with
  | false =>
    have HF := Lib.hid (fun w => fieldOf_no q w hz)
    clear hv h hz
    generalize l.length = n at *
    go_enter Tryz.func9, Tryz.ntmps9
    go_wp2_with fail
    refine (HF.out _).mono ?_
    rintro e w1 ⟨rfl, hb1⟩
    have hz_hb1 := hb1.size; (try simp at hz_hb1)
    have HB1 := Lib.hid hb1; clear hb1
    go_wp2_with fail
    go_ret2
    have hb1 := HB1.out
    exact ⟨rfl, by (repeat' (first | (with_reducible assumption) | (with_reducible exact Below.refl _ _) | (with_reducible refine below_drewN ?_ _) | (with_reducible refine Below.drew ?_) | (with_reducible refine Below.alloc ?_ ?_ _) | (with_reducible refine Below.setCell ?_ ?_ _) | (with_reducible refine Below.trans ?_ (Below.mono (by assumption) ?_)) | (with_reducible exact Nat.le_refl _) | (with_reducible assumption) | omega | (simp; omega) | (simp; done)))⟩
  | true =>
    have HF := Lib.hid (fun w => fieldOf_yes q w hz)
    have HS := Lib.hid (fun w' (hb : Below w.heap.size w w') => isSetE q (.slice a l.length cap) l w' (hv.below hb (Nat.le_refl _)) hl)
    cases hr : rsn q l with
    | true =>
      have h0 : l.length = 0 := by
        simp only [wvOK, hr, hz, Bool.true_and] at h
        simpa using h
      clear hv h hz hr HS
      generalize l.length = n at *
      subst h0
      go_enter Tryz.func9, Tryz.ntmps9
      go_wp2_with fail
      refine (HF.out _).mono ?_
      rintro e w1 ⟨rfl, hb1⟩
      have hV := at_box ((hb1.block w.heap.size (by simp)).trans (heap_alloc_new w (lblk 24 (.slice a 0 cap))))
      have lV : w.heap.size < w1.heap.size := World.block_lt_of_cell? w1 _ hV
      have hz_hb1 := hb1.size; (try simp at hz_hb1)
      have HB1 := Lib.hid hb1; clear hb1
      go_wp2_with fail
      go_ret2
      have hb1 := HB1.out
      exact ⟨rfl, by (repeat' (first | (with_reducible assumption) | (with_reducible exact Below.refl _ _) | (with_reducible refine below_drewN ?_ _) | (with_reducible refine Below.drew ?_) | (with_reducible refine Below.alloc ?_ ?_ _) | (with_reducible refine Below.setCell ?_ ?_ _) | (with_reducible refine Below.trans ?_ (Below.mono (by assumption) ?_)) | (with_reducible exact Nat.le_refl _) | (with_reducible assumption) | omega | (simp; omega) | (simp; done)))⟩
    | false =>
      rw [hr] at HS
      clear hv h hz hr
      generalize l.length = n at *
      by_cases h0 : n = 0
      · subst h0
        go_enter Tryz.func9, Tryz.ntmps9
        go_wp2_with fail
        refine (HF.out _).mono ?_
        rintro e w1 ⟨rfl, hb1⟩
        have hV := at_box ((hb1.block w.heap.size (by simp)).trans (heap_alloc_new w (lblk 24 (.slice a 0 cap))))
        have lV : w.heap.size < w1.heap.size := World.block_lt_of_cell? w1 _ hV
        have hz_hb1 := hb1.size; (try simp at hz_hb1)
        have HB1 := Lib.hid hb1; clear hb1
        go_wp2_with fail
        go_ret2
        have hb1 := HB1.out
        exact ⟨rfl, by (repeat' (first | (with_reducible assumption) | (with_reducible exact Below.refl _ _) | (with_reducible refine below_drewN ?_ _) | (with_reducible refine Below.drew ?_) | (with_reducible refine Below.alloc ?_ ?_ _) | (with_reducible refine Below.setCell ?_ ?_ _) | (with_reducible refine Below.trans ?_ (Below.mono (by assumption) ?_)) | (with_reducible exact Nat.le_refl _) | (with_reducible assumption) | omega | (simp; omega) | (simp; done)))⟩
      · have hnb : ((n : Int) == 0) = false := by simp; omega
        go_enter Tryz.func9, Tryz.ntmps9
        go_wp2_with fail
        refine (HF.out _).mono ?_
        rintro e w1 ⟨rfl, hb1⟩
        have hV := at_box ((hb1.block w.heap.size (by simp)).trans (heap_alloc_new w (lblk 24 (.slice a n cap))))
        have lV : w.heap.size < w1.heap.size := World.block_lt_of_cell? w1 _ hV
        have hz_hb1 := hb1.size; (try simp at hz_hb1)
        have HB1 := Lib.hid hb1; clear hb1
        go_wp2_with fail
        refine (HS.out _ (by have hb1 := HB1.out; (repeat' (first | (with_reducible assumption) | (with_reducible exact Below.refl _ _) | (with_reducible refine below_drewN ?_ _) | (with_reducible refine Below.drew ?_) | (with_reducible refine Below.alloc ?_ ?_ _) | (with_reducible refine Below.setCell ?_ ?_ _) | (with_reducible refine Below.trans ?_ (Below.mono (by assumption) ?_)) | (with_reducible exact Nat.le_refl _) | (with_reducible assumption) | omega | (simp; omega) | (simp; done))))).mono ?_
        rintro e w2 ⟨rfl, hb2⟩
        have hz_hb2 := hb2.size; (try simp at hz_hb2)
        have HB2 := Lib.hid hb2; clear hb2
        go_wp2_with fail
        go_ret2
        have hb1 := HB1.out
        have hb2 := HB2.out
        exact ⟨rfl, by (repeat' (first | (with_reducible assumption) | (with_reducible exact Below.refl _ _) | (with_reducible refine below_drewN ?_ _) | (with_reducible refine Below.drew ?_) | (with_reducible refine Below.alloc ?_ ?_ _) | (with_reducible refine Below.setCell ?_ ?_ _) | (with_reducible refine Below.trans ?_ (Below.mono (by assumption) ?_)) | (with_reducible exact Nat.le_refl _) | (with_reducible assumption) | omega | (simp; omega) | (simp; done)))⟩
set_option maxRecDepth 100000 in
set_option maxHeartbeats 4000000 in
theorem impl_WithValues_yes (m : Nat) (v : Value) (l : List Int) (w : World) (hv : Sl w v l) (h : isSz (m : Int) = true) (hr : rsn (m : Int) l = true) (h0 : 0 < l.length) :
    Calls Tryz.prog 9 #[.int .i64 m, v] w fun e w' => ∃ v', e = .returned (.tuple #[v', .bool true]) ∧ Row w' w.heap.size v' (ftl m (wt l)) ∧ Below w.heap.size w w' := by
  have hq := isSz_le (m : Int) h
  have hsl := rsn_len hr
  have hwt := wt_el hr h0
  have HF := Lib.hid (fun w => fieldOf_yes (m : Int) w h)
  have HS := Lib.hid (fun w' (hb : Below w.heap.size w w') => by have := isSetE (m : Int) v l w' (hv.below hb (Nat.le_refl _)) (by omega); rw [hr] at this; exact this)
  have HWT := Lib.hid (fun v w' (hs : Se w' v (m : Int) (wt l) m) => withTableT m v (wt l) w' h hs (fun i _ => hwt i))
  have HN := Lib.hid (fun v f k w' (hs : Se w' v (m : Int) f k) (hf : ∀ i, El (m : Int) (f i)) (hk : k ≤ m) => numbersE (m : Int) v f k w' h hs (fun i _ => hf i) (by omega))
  obtain ⟨b, off, cap, rfl, hb, hcc⟩ := hv.open rfl h0
  have HW : Hid (∀ i, wt l i = l.getD (min i (l.length - 1)) 0) := Lib.hid fun _ => rfl
  have HCL := Lib.hid (fun i F V L w' (hi : i < m) (hbw : Below w.heap.size w w') hF hV hL => wvClo m i (min i (l.length - 1)) (l.length - 1) l.length b off cap F V L (wt l i) w' h (hwt i) (by omega) (by omega) (by omega) ((hbw.cell (p := ⟨b, off + min i (l.length - 1), none⟩) hb).trans (hcc (min i (l.length - 1)) (by omega))) hF hV hL)
  clear hv h hr hwt hcc HW
  generalize ftl m (wt l) = R at *
  generalize wt l = t at *
  generalize l.length = n at *
  have hwn : IntKind.i64.wrap ((n : Int) - 1) = (n : Int) - 1 := IntWalk.i64_in _ (by omega)
  have hnb : ((n : Int) == 0) = false := by simp; omega
  have HN1 : Hid ((n : Int) - 1 = ((n - 1 : Nat) : Int)) := Lib.hid (by omega)
  go_enter Tryz.func9, Tryz.ntmps9
  go_wp2_with fail
  refine (HF.out _).mono ?_
  rintro e w1 ⟨rfl, hb1⟩
  have hk1 : w1.heap[w.heap.size]? = some (lblk 24 (.slice (some ⟨b, off, none⟩) n cap)) := (hb1.block w.heap.size (by simp)).trans (heap_alloc_new w (lblk 24 (.slice (some ⟨b, off, none⟩) n cap)))
  have hV := at_box hk1
  have lV : w.heap.size < w1.heap.size := World.block_lt_of_cell? w1 _ hV
  have HK1 := Lib.hid hk1
  clear hk1
  have hz_hb1 := hb1.size; (try simp at hz_hb1)
  have HB1 : Hid (Below w.heap.size w w1) := Lib.hid (by (repeat' (first | (with_reducible assumption) | (with_reducible exact Below.refl _ _) | (with_reducible refine below_drewN ?_ _) | (with_reducible refine Below.drew ?_) | (with_reducible refine Below.alloc ?_ ?_ _) | (with_reducible refine Below.setCell ?_ ?_ _) | (with_reducible refine Below.trans ?_ (Below.mono (by assumption) ?_)) | (with_reducible exact Nat.le_refl _) | (with_reducible assumption) | omega | (simp; omega) | (simp; done)))); clear hb1
  go_wp2_with fail
  refine (HS.out _ (by have hb1 := HB1.out; (repeat' (first | (with_reducible assumption) | (with_reducible exact Below.refl _ _) | (with_reducible refine below_drewN ?_ _) | (with_reducible refine Below.drew ?_) | (with_reducible refine Below.alloc ?_ ?_ _) | (with_reducible refine Below.setCell ?_ ?_ _) | (with_reducible refine Below.trans ?_ (Below.mono (by assumption) ?_)) | (with_reducible exact Nat.le_refl _) | (with_reducible assumption) | omega | (simp; omega) | (simp; done))))).mono ?_
  rintro e w2 ⟨rfl, hb2⟩
  have HF2 : Hid (w2.heap[w1.heap.size]? = some (ffblk (m : Int))) := Lib.hid ((hb2.block _ (by simp)).trans (heap_alloc_new w1 _))
  have HV2 : Hid (w2.heap[w.heap.size]? = some (lblk 24 (.slice (some ⟨b, off, none⟩) n cap))) := Lib.hid ((hb2.block _ (by simp; omega)).trans ((Below.heap_alloc w1 _ _ lV).trans HK1.out))
  have hV2 := at_box HV2.out
  have l2 : w1.heap.size < w2.heap.size := (Array.getElem?_eq_some_iff.1 HF2.out).1
  have HB2 : Hid (Below w.heap.size w w2) := Lib.hid (by have hb1 := HB1.out; (repeat' (first | (with_reducible assumption) | (with_reducible exact Below.refl _ _) | (with_reducible refine below_drewN ?_ _) | (with_reducible refine Below.drew ?_) | (with_reducible refine Below.alloc ?_ ?_ _) | (with_reducible refine Below.setCell ?_ ?_ _) | (with_reducible refine Below.trans ?_ (Below.mono (by assumption) ?_)) | (with_reducible exact Nat.le_refl _) | (with_reducible assumption) | omega | (simp; omega) | (simp; done)))); clear hb2 hV
  obtain ⟨f0, f1, f2, ff, fl0⟩ := cells3' HF2.out
  have HL : Hid (∀ L0 w', L0 = Value.int .i64 ((n : Int) - 1) → Below (w2.heap.size + 1) (w2.alloc (.cells #[L0] 3)) w' → w'.heap[w1.heap.size]? = some (ffblk (m : Int)) ∧ w'.cell? ⟨w.heap.size, 0, none⟩ = some (.slice (some ⟨b, off, none⟩) n cap) ∧ w'.cell? ⟨w2.heap.size, 0, none⟩ = some (.int .i64 ((n - 1 : Nat) : Int)) ∧ Below w.heap.size w w') := Lib.hid fun L0 w' hL0 hb => by
    subst hL0
    refine ⟨(hb.block _ (by omega)).trans ((Below.heap_alloc w2 _ _ l2).trans HF2.out), at_box ((hb.block _ (by omega)).trans ((Below.heap_alloc w2 _ _ (by omega)).trans HV2.out)), ?_, ?_⟩
    · have := at_box ((hb.block w2.heap.size (by omega)).trans (heap_alloc_new w2 (.cells #[.int .i64 ((n : Int) - 1)] 3)))
      rw [HN1.out] at this
      exact this
    · have hb2 := HB2.out
      (repeat' (first | (with_reducible assumption) | (with_reducible exact Below.refl _ _) | (with_reducible refine below_drewN ?_ _) | (with_reducible refine Below.drew ?_) | (with_reducible refine Below.alloc ?_ ?_ _) | (with_reducible refine Below.setCell ?_ ?_ _) | (with_reducible refine Below.trans ?_ (Below.mono (by assumption) ?_)) | (with_reducible exact Nat.le_refl _) | (with_reducible assumption) | omega | (simp; omega) | (simp; done)))
  have HLO := Lib.hid (fun w' (hb : Below (w2.heap.size + 1) (w2.alloc (.cells #[.int .i64 ((n : Int) - 1)] 3)) w') => listOf_WV (m : Int) m t w1.heap.size w.heap.size w2.heap.size w' (by omega) (fun i w'' hi hb'' => by
    obtain ⟨z1, z2, z3, z4⟩ := HL.out _ w'' rfl (hb.trans (hb''.mono (by have := hb.size; simp at this; omega)))
    exact HCL.out i _ _ _ w'' hi z4 z1 z2 z3))
  go_wp2_with fail
  refine (HLO.out _ (Below.refl _ _)).mono ?_
  rintro e w3 ⟨rfl, hk3, he3, hb3⟩
  replace hb3 : Below (w2.heap.size + 1) (w2.alloc (.cells #[.int .i64 ((n : Int) - 1)] 3)) w3 := hb3.mono (by simp)
  have HSE3 : Hid (Se w3 (.slice (some ⟨w2.heap.size + 1, 0, none⟩) m m) (m : Int) t m) := Lib.hid ⟨_, _, rfl, by have := hk3.lt; simpa using this, by simpa using he3⟩
  obtain ⟨f0', f1', f2', ff', fl'⟩ := cells3' (HL.out _ w3 rfl hb3).1
  have HB3 : Hid (Below w.heap.size w w3) := Lib.hid (HL.out _ w3 rfl hb3).2.2.2
  clear hk3 he3 hb3 f0 f1 f2 ff fl0 hV2
  go_wp2_with fail
  refine (HWT.out _ _ HSE3.out).mono ?_
  rintro e w4 ⟨g4, k4, cap4, f4, rfl, hg4, he4, hf4, hk4, hfl, hb4⟩
  have HSE4 : Hid (Se w4 (.slice (some ⟨g4, 0, none⟩) k4 cap4) (m : Int) f4 k4) := Lib.hid ⟨_, _, rfl, hg4, he4⟩
  have HFL := Lib.hid hfl
  have HF4 := Lib.hid hf4
  have HB4 : Hid (Below w.heap.size w w4) := Lib.hid (HB3.out.trans (hb4.mono HB3.out.size))
  clear he4 hfl hf4 hb4 f0' f1' f2' ff' fl'
  go_wp2_with fail
  refine (HN.out _ _ _ _ HSE4.out HF4.out hk4).mono ?_
  rintro e w5 ⟨v5, rfl, hr5, hb5⟩
  have HR5 := Lib.hid hr5
  have HB5 : Hid (Below w.heap.size w w5) := Lib.hid (HB4.out.trans (hb5.mono HB4.out.size))
  clear hr5 hb5
  go_wp2
  go_ret2
  exact ⟨_, rfl, by rw [← HFL.out]; exact HR5.out.mono HB4.out.size, HB5.out⟩
theorem key_WithValues (q : Int) (l_values : List Int) (b_values : l_values.length ≤ 1048576) : ∃ (r : List Int) (o : Bool), r.length ≤ 1048576 ∧ (∀ (w : World) (v_values : Value) (_ : Sl w v_values l_values), Calls Tryz.prog 10 #[.int .i64 q, v_values] w fun e w' => ∃ v, e = .returned (.tuple #[v, .bool o]) ∧ Row w' w.heap.size v r ∧ Below w.heap.size w w') ∧
      (∀ (w : World) (v_values : Value) (_ : Sl w v_values l_values), Calls Tryz.prog 9 #[.int .i64 q, v_values] w fun e w' => ∃ v, e = .returned (.tuple #[v, .bool o]) ∧ Row w' w.heap.size v r ∧ Below w.heap.size w w') := by
  cases h : wvOK q l_values with
  | false => exact ⟨[], false, by simp, fun w v hv => (spec_WithValues_no q v l_values w hv b_values h).mono (by rintro e w' ⟨rfl, hb⟩; exact ⟨_, rfl, Row.nil _ _, hb⟩), fun w v hv => (impl_WithValues_no q v l_values w hv b_values h).mono (by rintro e w' ⟨rfl, hb⟩; exact ⟨_, rfl, Row.nil _ _, hb⟩)⟩
  | true =>
    simp only [wvOK, Bool.and_eq_true, Bool.not_eq_true', decide_eq_false_iff_not] at h
    have hq := isSz_le q h.1.1
    obtain ⟨m, rfl⟩ := Int.eq_ofNat_of_zero_le (show 0 ≤ q by omega)
    exact ⟨_, true, Nat.le_trans (ftl_len _ _) (by omega), fun w v hv => spec_WithValues_yes m v l_values w hv h.1.1 h.1.2 (by omega), fun w v hv => impl_WithValues_yes m v l_values w hv h.1.1 h.1.2 (by omega)⟩
end Go.Proofs.YtapglncgicfjnabGreat
