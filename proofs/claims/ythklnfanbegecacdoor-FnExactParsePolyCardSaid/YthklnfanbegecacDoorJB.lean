/- Texts of polynomials, of the model: spec.l1Num, spec.plText by contracts. -/
import Derived.Test.YthklnfanbegecacDoorJA
import Derived.Test.YthklnfanbegecacDoorHC
import Derived.Laws.IdiomStrings
import Derived.Laws.Closers25
import Derived.Deep.RegionHeld3
namespace Go.Proofs.YthklnfanbegecacDoor
open Go.RowKit
/-- A string of bytes. -/
def bs (l : List UInt8) : ByteArray := ⟨l.toArray⟩
theorem bs_app (a b : List UInt8) : bs a ++ bs b = bs (a ++ b) := by
  unfold bs
  apply ByteArray.ext
  simp
theorem bs_size (l : List UInt8) : (bs l).size = l.length := by simp [bs, ByteArray.size]
/-- A slice of one byte as a string. -/
theorem conv1 (k : Int) (h0 : 0 ≤ k) (h1 : k < 256) (W : World) : (convert 54 9 (.slice (some ⟨W.heap.size, 0, none⟩) 1 1)).run Tryd.prog (W.alloc (.cells #[.int .u8 k] 5)) = .ok (.string (bs [UInt8.ofNat k.toNat])) (W.alloc (.cells #[.int .u8 k] 5)) := by
  refine run_convert_bytes_back _ _ _ 5 ⟨W.heap.size, 0, none⟩ 1 [UInt8.ofNat k.toNat] Tryd.underlying54 Tryd.underlying5 Tryd.underlying9 fun j hj => ?_
  obtain rfl : j = 0 := by simpa using hj
  have e : ((UInt8.ofNat k.toNat).toNat : Int) = k := by
    rw [UInt8.toNat_ofNat']
    omega
  simp only [List.getElem_cons_zero, e]
  have := cell_one_new W (.int .u8 k) 5
  exact this 0 _ rfl
/-- The same of a byte that lies in a block of its own. -/
theorem convB (k : Int) (h0 : 0 ≤ k) (h1 : k < 256) (W : World) (b : Nat) (hc : W.cell? ⟨b, 0, none⟩ = some (.int .u8 k)) : (convert 54 9 (.slice (some ⟨b, 0, none⟩) 1 1)).run Tryd.prog W = .ok (.string (bs [UInt8.ofNat k.toNat])) W := by
  refine run_convert_bytes_back _ _ _ 5 ⟨b, 0, none⟩ 1 [UInt8.ofNat k.toNat] Tryd.underlying54 Tryd.underlying5 Tryd.underlying9 fun j hj => ?_
  obtain rfl : j = 0 := by simpa using hj
  have e : ((UInt8.ofNat k.toNat).toNat : Int) = k := by
    rw [UInt8.toNat_ofNat']
    omega
  simp only [List.getElem_cons_zero, e]
  exact hc
set_option maxHeartbeats 2000000 in
theorem l1Num_low (x : Int) (h0 : 0 ≤ x) (h1 : x < 10) (w : World) :
    Calls Tryd.prog 28 #[.int .i64 x] w fun e w' => e = .returned (.string (bs (num x))) ∧ Below w.heap.size w w' := by
  have hn : bs [UInt8.ofNat (48 + x).toNat] = bs (num x) := by
    unfold num Lib.decDigits
    rw [dif_pos (by omega)]
    congr 3
    omega
  have q := fun W => conv1 (48 + x) (by omega) (by omega) W
  rw [hn] at q
  have hw : IntKind.u8.wrap (48 + x) = 48 + x := by rw [IntKind.wrap_u8]; omega
  clear hn
  generalize bs (num x) = S at *
  go_enter Tryd.func28, Tryd.ntmps28
  go_wp2
  go_ret
  exact ⟨rfl, by (repeat' (first | (with_reducible assumption) | (with_reducible exact Below.refl _ _) | (with_reducible refine below_drewN ?_ _) | (with_reducible refine Below.drew ?_) | (with_reducible refine Below.alloc ?_ ?_ _) | (with_reducible refine Below.setCell ?_ ?_ _) | (with_reducible refine Below.trans ?_ (Below.mono (by assumption) ?_)) | (with_reducible exact Nat.le_refl _) | (with_reducible assumption) | omega | (simp; omega) | (simp; done)))⟩
set_option maxRecDepth 100000 in
set_option maxHeartbeats 4000000 in
/-- spec.l1Num of a number below a hundred. -/
theorem l1Num_any (x : Int) (h0 : 0 ≤ x) (h1 : x < 100) (w : World) :
    Calls Tryd.prog 28 #[.int .i64 x] w fun e w' => e = .returned (.string (bs (num x))) ∧ Below w.heap.size w w' := by
  by_cases hx : x < 10
  · exact l1Num_low x h0 hx w
  · have HL := Lib.hid (fun w => l1Num_low (x / 10) (by omega) (by omega) w)
    have hn : bs (num (x / 10)) ++ bs [UInt8.ofNat (48 + x % 10).toNat] = bs (num x) := by
      rw [bs_app]
      congr 1
      unfold num
      conv => rhs; unfold Lib.decDigits
      rw [dif_neg (by omega)]
      congr 1
      · congr 1
        omega
      · congr 2
        omega
    have q := fun W => conv1 (48 + x % 10) (by omega) (by omega) W
    have qd : ∀ W : World, (convert 54 9 (.slice (some ⟨W.heap.size, 0, none⟩) 1 1)).run Tryd.prog (W.alloc (.cells #[.int .u8 (48 + x % 10)] 5)).drew = .ok (.string (bs [UInt8.ofNat (48 + x % 10).toNat])) (W.alloc (.cells #[.int .u8 (48 + x % 10)] 5)).drew := fun W => convB (48 + x % 10) (by omega) (by omega) _ _ (cell_one_new W (.int .u8 (48 + x % 10)) 5 0 _ rfl)
    have QB := Lib.hid (fun W b hc => convB (48 + x % 10) (by omega) (by omega) W b hc)
    have QC := Lib.hid (fun W => cell_one_new W (.int .u8 (48 + x % 10)) 5 0 _ rfl)
    have hw : IntKind.u8.wrap (48 + x % 10) = 48 + x % 10 := by rw [IntKind.wrap_u8]; omega
    have hw1 : IntKind.i64.wrap (x / 10) = x / 10 := by rw [IntKind.wrap_i64]; omega
    have hw2 : IntKind.i64.wrap (x % 10) = x % 10 := by rw [IntKind.wrap_i64]; omega
    have hw3 : IntKind.i64.wrap (48 + x % 10) = 48 + x % 10 := by rw [IntKind.wrap_i64]; omega
    have hq : x.tdiv 10 = x / 10 := Int.tdiv_eq_ediv_of_nonneg h0
    have hr : x.tmod 10 = x % 10 := Int.tmod_eq_emod_of_nonneg h0
    have hs1 : (bs (num (x / 10))).size ≤ 2 := by rw [bs_size]; exact num_len _ (by omega) (by omega)
    have hs2 : (bs [UInt8.ofNat (48 + x % 10).toNat]).size ≤ 1 := by rw [bs_size]; exact Nat.le_refl _
    have hs3 : (bs (num (x / 10))).size + (bs [UInt8.ofNat (48 + x % 10).toNat]).size ≤ 3 := by omega
    have hs4 : (bs (num (x / 10))).size + (bs [UInt8.ofNat (48 + x % 10).toNat]).size ≤ 281474976710656 := by omega
    generalize bs (num x) = S at *
    generalize bs (num (x / 10)) = S1 at *
    generalize bs [UInt8.ofNat (48 + x % 10).toNat] = S2 at *
    have HN := Lib.hid hn; clear hn
    go_enter Tryd.func28, Tryd.ntmps28
    go_wp2_with fail
    go_region_with (go_at_call 28; refine (HL.out _).mono ?_; rintro e w1 ⟨rfl, hb1⟩; have hz1 := hb1.size; (try simp at hz1); (try have q1 := QB.out w1 w.heap.size ((hb1.cell (p := ⟨w.heap.size, 0, none⟩) (by simp)).trans (QC.out w))); have HB1 := Lib.hid hb1; clear hb1)
    all_goals
      go_wp2
      go_ret
      have hb1 := HB1.out
      refine ⟨?_, by (repeat' (first | (with_reducible assumption) | (with_reducible exact Below.refl _ _) | (with_reducible refine below_drewN ?_ _) | (with_reducible refine Below.drew ?_) | (with_reducible refine Below.alloc ?_ ?_ _) | (with_reducible refine Below.setCell ?_ ?_ _) | (with_reducible refine Below.trans ?_ (Below.mono (by assumption) ?_)) | (with_reducible exact Nat.le_refl _) | (with_reducible assumption) | omega | (simp; omega) | (simp; done)))⟩
      have hN := HN.out
      rw [hN]
      try rfl
/-- The text of n numbers. -/
def txtB (f : Nat → Int) (n : Nat) : ByteArray := bs (txt f n)
theorem txtB_zero (f : Nat → Int) : txtB f 0 = ⟨#[]⟩ := rfl
theorem txtB_one (f : Nat → Int) : (⟨#[]⟩ : ByteArray) ++ bs (num (f 0)) = txtB f 1 := by
  show bs [] ++ bs (num (f 0)) = _
  rw [bs_app]
  rfl
theorem txtB_more (f : Nat → Int) (i : Nat) (h : i ≠ 0) : txtB f i ++ (⟨#[44]⟩ : ByteArray) ++ bs (num (f i)) = txtB f (i + 1) := by
  show bs (txt f i) ++ bs [44] ++ bs (num (f i)) = _
  rw [bs_app, bs_app]
  show bs _ = bs (txt f (i + 1))
  congr 1
  show _ = if i = 0 then num (f i) else txt f i ++ (44 :: num (f i))
  rw [if_neg h]
  simp
theorem txtB_ne (f : Nat → Int) (n : Nat) (h : 0 < n) : txtB f n ≠ ⟨#[]⟩ := by
  intro e
  have := txt_ne f n h
  unfold txtB bs at e
  simp at e
  exact this e
set_option maxRecDepth 100000 in
set_option maxHeartbeats 4000000 in
/-- spec.plText. -/
theorem plText_any (v : Value) (f : Nat → Int) (n : Nat) (w : World) (hv : Sl w v (fl f n)) (hf : ∀ i, i < n → 0 ≤ f i ∧ f i < 100) (hn : n ≤ 50) :
    Calls Tryd.prog 18 #[v] w fun e w' => e = .returned (.string (if n = 0 then ⟨#[45]⟩ else txtB f n)) ∧ Below w.heap.size w w' := by
  by_cases h0 : 0 < n
  · rw [if_neg (by omega)]
    obtain ⟨b, off, cap, rfl, hb, hcc⟩ := hv.open (fl_len _ _) h0
    have HC : Hid (∀ i, i < n → w.cell? ⟨b, off + i, none⟩ = some (.int .i64 (f i))) := Lib.hid fun i hi => by have := hcc i hi; rwa [fl_get _ _ _ hi] at this
    have HL := Lib.hid (fun (i : Nat) (hi : i < n) w => l1Num_any (f i) (hf i hi).1 (hf i hi).2 w)
    have HSZ : Hid (∀ i, i ≤ n → (txtB f i).size ≤ 150) := Lib.hid fun i hi => by
      unfold txtB
      rw [bs_size]
      have := txt_len f i fun j hj => hf j (by omega)
      omega
    have HNZ : Hid (∀ i, i < n → (bs (num (f i))).size ≤ 2) := Lib.hid fun i hi => by
      rw [bs_size]
      exact num_len _ (hf i hi).1 (hf i hi).2
    have H1 := Lib.hid (txtB_one f)
    have HM := Lib.hid (txtB_more f)
    have HZ := Lib.hid (txtB_zero f)
    have HNE : Hid ((txtB f n).toList.isEmpty = false) := Lib.hid (by rw [← decide_eq_emptyBytes]; exact decide_eq_false (txtB_ne f n h0))
    clear hv hcc hf
    generalize txtB f = T at *
    generalize hN : (fun i => bs (num (f i))) = N at *
    have HNN : Hid (∀ i, bs (num (f i)) = N i) := Lib.hid fun i => by rw [← hN]
    clear hN
    go_enter Tryd.func18, Tryd.ntmps18
    go_wp2_with fail
    go_loopw [3, 8] (fun vo vi wr => ∃ i : Nat, i ≤ n ∧ vi = .int .i64 i ∧ vo = .string (T i) ∧ Below w.heap.size w wr) (fun _ vi _ => n - (intOf vi).toNat)
    case atStart => exact ⟨0, Nat.zero_le _, rfl, by rw [HZ.out], Below.refl _ _⟩
    case round =>
      obtain ⟨i, hi, rfl, rfl, hbw⟩ := hrel
      by_cases hlt : i < n
      · have hcell := (hbw.cell (p := ⟨b, off + i, none⟩) hb).trans (HC.out i hlt)
        have hbl : b < wr.heap.size := by have := hbw.size; omega
        have HBW := Lib.hid hbw; clear hbw
        have HL' := Lib.hid (HL.out i hlt)
        rw [HNN.out i] at HL'
        have hs1 := HSZ.out i hi
        have hs2 := HNZ.out i hlt
        rw [HNN.out i] at hs2
        generalize f i = x at *
        by_cases hi0 : i = 0
        · subst hi0
          rw [Nat.add_zero] at hcell
          have H1' := Lib.hid H1.out
          rw [HNN.out 0, ← HZ.out] at H1'
          generalize N 0 = s2 at *
          generalize T 0 = s1 at *
          go_wp2_with fail
          refine (HL'.out _).mono ?_
          rintro e w2 ⟨rfl, hb2⟩
          have HB2 := Lib.hid hb2; clear hb2
          go_wp2
          go_roundw
          case rel => exact ⟨0 + 1, by omega, by go_num, by rw [← H1'.out], HBW.out.trans (HB2.out.mono HBW.out.size)⟩
          case measure => (simp [intOf]; try omega)
        · have HM' := Lib.hid (HM.out i hi0)
          rw [HNN.out i] at HM'
          have hpos : (0 : Int) < (i : Int) := by omega
          generalize N i = s2 at *
          generalize T i = s1 at *
          go_wp2_with fail
          refine (HL'.out _).mono ?_
          rintro e w2 ⟨rfl, hb2⟩
          have HB2 := Lib.hid hb2; clear hb2
          go_wp2
          go_roundw
          case rel => exact ⟨i + 1, by omega, by go_num, by rw [← HM'.out], HBW.out.trans (HB2.out.mono HBW.out.size)⟩
          case measure => (simp [intOf]; try omega)
      · obtain rfl : n = i := by omega
        have hne := HNE.out
        go_wp2
        go_ret
        exact ⟨rfl, hbw⟩
  · obtain rfl : n = 0 := by omega
    rw [if_pos rfl]
    obtain ⟨a, cap, rfl⟩ := Sl.empty (show Sl w v [] from hv)
    clear hv hf h0
    go_enter Tryd.func18, Tryd.ntmps18
    go_wp2_with fail
    (refine wp_loop_rounds 1 ?_; repeat any_goals (rw [rounds_succ]; go_wp2))
    go_wp2
    go_ret
    exact ⟨rfl, by (repeat' (first | (with_reducible assumption) | (with_reducible exact Below.refl _ _) | (with_reducible refine below_drewN ?_ _) | (with_reducible refine Below.drew ?_) | (with_reducible refine Below.alloc ?_ ?_ _) | (with_reducible refine Below.setCell ?_ ?_ _) | (with_reducible refine Below.trans ?_ (Below.mono (by assumption) ?_)) | (with_reducible exact Nat.le_refl _) | (with_reducible assumption) | omega | (simp; omega) | (simp; done)))⟩
end Go.Proofs.YthklnfanbegecacDoor
