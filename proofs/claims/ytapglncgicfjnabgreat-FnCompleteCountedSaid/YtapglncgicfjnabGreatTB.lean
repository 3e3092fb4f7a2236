/- Characters, in memory; CharacterOf, of both, by contracts; the walk of its law. -/
import Derived.Test.YtapglncgicfjnabGreatNM
import Derived.Laws.Rows
import Derived.Laws.CopyOwn
import Derived.Deep.RegionWith
import Derived.Deep.MidRow
namespace Go.Proofs.YtapglncgicfjnabGreat
open Go.RowKit
/-- A character. -/
def chi (q a : Int) : Int := if a = 0 then 0 else if nsq q a then 1 else -1
theorem chi_bd (q a : Int) : -1 ≤ chi q a ∧ chi q a ≤ 1 := by
  unfold chi
  split
  · omega
  · split <;> omega
theorem chi_zero (q : Int) : chi q 0 = 0 := rfl
theorem chi_yes {q a : Int} (h0 : a ≠ 0) (h : nsq q a = true) : chi q a = 1 := by unfold chi; rw [if_neg h0, if_pos h]
theorem chi_no {q a : Int} (h0 : a ≠ 0) (h : nsq q a = false) : chi q a = -1 := by unfold chi; rw [if_neg h0, if_neg (by rw [h]; decide)]
/-- The characters of the first n elements. -/
def chN (q : Int) (n : Nat) : Nat → Int := fun i => if i < n then chi q (i : Int) else 0
theorem chN_zero (q : Int) : chN q 0 = fun _ => 0 := funext fun i => if_neg (Nat.not_lt_zero i)
theorem chN_at {q : Int} {n i : Nat} (h : i < n) : chN q n i = chi q (i : Int) := if_pos h
theorem chN_step (q : Int) (n : Nat) : upd (chN q n) n (chi q (n : Int)) = chN q (n + 1) := by
  funext i
  by_cases e : i = n
  · subst e
    rw [upd_at, chN_at (Nat.lt_succ_self _)]
  · rw [upd_ne _ _ _ _ e]
    unfold chN
    by_cases h : i < n
    · rw [if_pos h, if_pos (by omega)]
    · rw [if_neg h, if_neg (by omega)]
theorem chN_same (q : Int) (n : Nat) (h : chi q (n : Int) = 0) : chN q (n + 1) = chN q n := by
  rw [← chN_step, h]
  funext i
  by_cases e : i = n
  · subst e
    rw [upd_at]
    exact (if_neg (Nat.lt_irrefl _)).symm
  · rw [upd_ne _ _ _ _ e]
/-- The cells of characters. -/
def CH (c : Nat → Int) : Array Value := #[.int .i64 (c 0), .int .i64 (c 1), .int .i64 (c 2), .int .i64 (c 3), .int .i64 (c 4), .int .i64 (c 5), .int .i64 (c 6), .int .i64 (c 7), .int .i64 (c 8), .int .i64 (c 9), .int .i64 (c 10), .int .i64 (c 11), .int .i64 (c 12), .int .i64 (c 13), .int .i64 (c 14), .int .i64 (c 15)]
theorem CH_size (c : Nat → Int) : (CH c).size = 16 := rfl
theorem CH_get (c : Nat → Int) (i : Nat) (hi : i < 16) : (CH c)[i]? = some (.int .i64 (c i)) := by
  have hc : i = 0 ∨ i = 1 ∨ i = 2 ∨ i = 3 ∨ i = 4 ∨ i = 5 ∨ i = 6 ∨ i = 7 ∨ i = 8 ∨ i = 9 ∨ i = 10 ∨ i = 11 ∨ i = 12 ∨ i = 13 ∨ i = 14 ∨ i = 15 := by omega
  rcases hc with rfl | rfl | rfl | rfl | rfl | rfl | rfl | rfl | rfl | rfl | rfl | rfl | rfl | rfl | rfl | rfl
  all_goals rfl
theorem CH_set (c : Nat → Int) (i : Nat) (hi : i < 16) (x : Int) : (CH c).setIfInBounds i (.int .i64 x) = CH (upd c i x) := by
  have hc : i = 0 ∨ i = 1 ∨ i = 2 ∨ i = 3 ∨ i = 4 ∨ i = 5 ∨ i = 6 ∨ i = 7 ∨ i = 8 ∨ i = 9 ∨ i = 10 ∨ i = 11 ∨ i = 12 ∨ i = 13 ∨ i = 14 ∨ i = 15 := by omega
  rcases hc with rfl | rfl | rfl | rfl | rfl | rfl | rfl | rfl | rfl | rfl | rfl | rfl | rfl | rfl | rfl | rfl
  all_goals simp [CH, upd]
theorem CH_one (c : Nat → Int) : (CH c).all (·.oneCell') = true := by
  simp [CH, Value.oneCell']
abbrev chblk (c : Nat → Int) : Obj := .cells (CH c) 144
theorem chcells {w : World} {b : Nat} {c : Nat → Int} {T : TypeId} (h : w.heap[b]? = some (.cells (CH c) T (0, 0))) :
    (∀ i, i < 16 → w.cell? ⟨b, i, none⟩ = some (.int .i64 (c i))) ∧ (∀ o, w.frozen? ⟨b, o, none⟩ = false) ∧ b < w.heap.size := by
  refine ⟨fun i hi => ?_, fun o => frozen_of_row w b o _ _ h, (Array.getElem?_eq_some_iff.1 h).1⟩
  rw [cell_of_row w b _ _ _ _ h]
  exact CH_get c i hi
/-- The memory of characters between two rounds. -/
structure TC (w0 wr : World) (m g : Nat) (c : Nat → Int) : Prop where
  hz : ∃ cs, cs.size = 16 ∧ wr.heap[w0.heap.size + 1]? = some (.cells cs 144 (0, 0))
  hF : wr.heap[w0.heap.size + 2]? = some (chblk c)
  he : Els wr g (m : Int) (fun j => (j : Int)) m
  lt : w0.heap.size + 2 < g
  gl : g < wr.heap.size
  bel : Below w0.heap.size w0 wr
theorem TC.below {w0 wr w' : World} {m g B : Nat} {c : Nat → Int} (h : TC w0 wr m g c) (hb : Below B wr w') (hB : wr.heap.size ≤ B) : TC w0 w' m g c := by
  have h1 := h.lt
  have h2 := h.gl
  have h3 := h.bel.size
  have h4 := hb.size
  obtain ⟨cs, hc, hz⟩ := h.hz
  exact ⟨⟨cs, hc, (hb.block _ (by omega)).trans hz⟩, (hb.block _ (by omega)).trans h.hF, h.he.below hb (by omega), h1, by omega, h.bel.trans (hb.mono (by omega))⟩
theorem TC.put {w0 wr : World} {m g : Nat} {c : Nat → Int} (h : TC w0 wr m g c) (i : Nat) (hi : i < 16) (x : Int) : TC w0 (wr.setCell ⟨w0.heap.size + 2, i, none⟩ (.int .i64 x)) m g (upd c i x) := by
  obtain ⟨cs, hc, hz⟩ := h.hz
  have h2 := heap_setCell_same wr (w0.heap.size + 2) i _ _ (.int .i64 x) h.hF
  rw [CH_set _ _ hi] at h2
  have h3 := h.lt
  exact ⟨⟨cs, hc, (heap_setCell_other _ _ _ _ (by simp)).trans hz⟩, h2, h.he.same (heap_setCell_other _ _ _ _ (by show g ≠ w0.heap.size + 2; omega)), h3, by simpa using h.gl, h.bel.setCell (by simp) _⟩
abbrev zchblk : Obj := .cells #[.int .i64 0, .int .i64 0, .int .i64 0, .int .i64 0, .int .i64 0, .int .i64 0, .int .i64 0, .int .i64 0, .int .i64 0, .int .i64 0, .int .i64 0, .int .i64 0, .int .i64 0, .int .i64 0, .int .i64 0, .int .i64 0] 144
theorem CH_zero : CH (fun _ => 0) = #[.int .i64 0, .int .i64 0, .int .i64 0, .int .i64 0, .int .i64 0, .int .i64 0, .int .i64 0, .int .i64 0, .int .i64 0, .int .i64 0, .int .i64 0, .int .i64 0, .int .i64 0, .int .i64 0, .int .i64 0, .int .i64 0] := rfl
set_option maxRecDepth 100000 in
set_option maxHeartbeats 4000000 in
/-- impl.field.characters. -/
theorem charactersE (m : Nat) (w : World) (h : isSz (m : Int) = true) :
    Calls Tryz.prog 216 #[fdE (m : Int)] w fun e w' => e = .returned (.agg (CH (chN (m : Int) m))) ∧ Below w.heap.size w w' := by
  have hq := isSz_le (m : Int) h
  have HE := Lib.hid (fun w => elements_any (m : Int) w h)
  rw [Int.toNat_natCast] at HE
  have HN := Lib.hid (fun (i : Nat) w (hi : i < m) => nonzeroSqE m (i : Int) w h (by omega) (by omega))
  have HZ := Lib.hid (fun (i : Nat) w (hi : i < m) => isZeroE (m : Int) (i : Int) w h (by omega) (by omega))
  have HS1 : Hid (∀ i : Nat, nsq m (i : Int) = true → upd (chN m i) i 1 = chN m (i + 1)) := Lib.hid fun i hn => by
    have h0 : (i : Int) ≠ 0 := fun e => by rw [e, nsq_zero] at hn; cases hn
    rw [← chN_step, chi_yes h0 hn]
  have HS2 : Hid (∀ i : Nat, i ≠ 0 → nsq m (i : Int) = false → upd (chN m i) i (-1) = chN m (i + 1)) := Lib.hid fun i h0 hn => by
    rw [← chN_step, chi_no (by omega) hn]
  have HS0 : Hid (chN m 0 = chN m (0 + 1)) := Lib.hid (chN_same m 0 rfl).symm
  have HC0 : Hid (CH (chN m 0) = #[.int .i64 0, .int .i64 0, .int .i64 0, .int .i64 0, .int .i64 0, .int .i64 0, .int .i64 0, .int .i64 0, .int .i64 0, .int .i64 0, .int .i64 0, .int .i64 0, .int .i64 0, .int .i64 0, .int .i64 0, .int .i64 0]) := Lib.hid (by rw [chN_zero]; rfl)
  clear h
  go_enter Tryz.func216, Tryz.ntmps216
  go_wp2_with fail
  refine (HE.out _).mono ?_
  rintro e w1 ⟨g, cp, rfl, hg, hkb, hel, hb1⟩
  simp at hg
  have HTH := Lib.hid (three w (.cells #[.int .i64 m, .int .i64 (pr m), .int .i64 (pl m)] 61) zchblk zchblk)
  have htc : TC w w1 m g (chN m 0) := by
    refine ⟨⟨_, rfl, (hb1.block _ (by simp)).trans HTH.out.2.1⟩, ?_, hel, by omega, hkb.lt, by (repeat' (first | (with_reducible assumption) | (with_reducible exact Below.refl _ _) | (with_reducible refine below_drewN ?_ _) | (with_reducible refine Below.drew ?_) | (with_reducible refine Below.alloc ?_ ?_ _) | (with_reducible refine Below.setCell ?_ ?_ _) | (with_reducible refine Below.trans ?_ (Below.mono (by assumption) ?_)) | (with_reducible exact Nat.le_refl _) | (with_reducible assumption) | omega | (simp; omega) | (simp; done)))⟩
    exact ((hb1.block (w.heap.size + 2) (by simp)).trans HTH.out.2.2).trans (congrArg (fun A => some (Obj.cells A 144)) HC0.out.symm)
  have HT := Lib.hid htc
  clear htc hkb hel hb1 hg
  go_wp2_with fail
  go_loopw [9] (fun vi wr => ∃ i : Nat, i ≤ m ∧ vi = .int .i64 i ∧ TC w wr m g (chN m i)) (fun vi _ => m - (intOf vi).toNat)
  case atStart => exact ⟨0, Nat.zero_le _, rfl, HT.out⟩
  case round =>
    obtain ⟨i, him, rfl, hv⟩ := hrel
    have hzb := hv.bel.size
    have hlv := hv.lt
    have hgl := hv.gl
    by_cases hlt : i < m
    · obtain ⟨c0, c1, c2, c3, c4, c5, c6⟩ := hv.he i hlt
      have HN' := Lib.hid (fun w => HN.out i w hlt)
      have HZ' := Lib.hid (fun w => HZ.out i w hlt)
      have HX1 := Lib.hid (HS1.out i)
      have HX2 := Lib.hid (HS2.out i)
      have HV := Lib.hid hv
      clear hv
      cases hn : nsq (m : Int) (i : Int) with
      | true =>
        rw [hn] at HN'
        have HX := Lib.hid (HX1.out hn)
        clear HX1 HX2 HZ' hn
        go_wp2_with fail
        refine (HN'.out _).mono ?_
        rintro e w5 ⟨rfl, hb5⟩
        have hbz : Below wr.heap.size wr w5 := by (repeat' (first | (with_reducible assumption) | (with_reducible exact Below.refl _ _) | (with_reducible refine below_drewN ?_ _) | (with_reducible refine Below.drew ?_) | (with_reducible refine Below.alloc ?_ ?_ _) | (with_reducible refine Below.setCell ?_ ?_ _) | (with_reducible refine Below.trans ?_ (Below.mono (by assumption) ?_)) | (with_reducible exact Nat.le_refl _) | (with_reducible assumption) | omega | (simp; omega) | (simp; done)))
        have ht5 := HV.out.below hbz (Nat.le_refl _)
        obtain ⟨vc, vf, vl⟩ := chcells ht5.hF
        have hck := vc i (by omega)
        have hfk := vf i
        have hz5 := hbz.size
        have HV5 := Lib.hid (ht5.put i (by omega) 1)
        rw [HX.out] at HV5
        clear vc vf vl ht5 hb5 hbz HV HN' HX c0 c1 c2 c3 c4 c5 c6
        go_wp2
        go_roundw
        case rel => exact ⟨i + 1, by omega, by go_num, HV5.out⟩
        case measure => simp [intOf]; omega
      | false =>
        rw [hn] at HN'
        by_cases h0 : i = 0
        · subst h0
          have hd : decide (((0 : Nat) : Int) = 0) = true := rfl
          rw [hd] at HZ'
          clear HX1 HX2 hn
          go_wp2_with fail
          refine (HN'.out _).mono ?_
          rintro e w5 ⟨rfl, hb5⟩
          obtain ⟨hc5, hf5⟩ := bcell hb5; have hz5 := hb5.size; (try simp at hz5); have HB5 := Lib.hid hb5; clear hb5
          go_wp2_with fail
          refine (HZ'.out _).mono ?_
          rintro e w6 ⟨rfl, hb6⟩
          have hbz : Below wr.heap.size wr w6 := by have hb5 := HB5.out; (repeat' (first | (with_reducible assumption) | (with_reducible exact Below.refl _ _) | (with_reducible refine below_drewN ?_ _) | (with_reducible refine Below.drew ?_) | (with_reducible refine Below.alloc ?_ ?_ _) | (with_reducible refine Below.setCell ?_ ?_ _) | (with_reducible refine Below.trans ?_ (Below.mono (by assumption) ?_)) | (with_reducible exact Nat.le_refl _) | (with_reducible assumption) | omega | (simp; omega) | (simp; done)))
          have HV5 := Lib.hid (HV.out.below hbz (Nat.le_refl _))
          rw [HS0.out] at HV5
          clear hb6 hbz HV HN' HZ' c0 c1 c2 c3 c4 c5 c6
          go_wp2
          go_roundw
          case rel => exact ⟨0 + 1, by omega, by go_num, HV5.out⟩
          case measure => simp [intOf]; omega
        · have hd : decide ((i : Int) = 0) = false := by simpa using h0
          rw [hd] at HZ'
          have HX := Lib.hid (HX2.out h0 hn)
          clear HX1 HX2 hn hd
          go_wp2_with fail
          refine (HN'.out _).mono ?_
          rintro e w5 ⟨rfl, hb5⟩
          obtain ⟨hc5, hf5⟩ := bcell hb5; have hz5 := hb5.size; (try simp at hz5); have HB5 := Lib.hid hb5; clear hb5
          go_wp2_with fail
          refine (HZ'.out _).mono ?_
          rintro e w6 ⟨rfl, hb6⟩
          have hbz : Below wr.heap.size wr w6 := by have hb5 := HB5.out; (repeat' (first | (with_reducible assumption) | (with_reducible exact Below.refl _ _) | (with_reducible refine below_drewN ?_ _) | (with_reducible refine Below.drew ?_) | (with_reducible refine Below.alloc ?_ ?_ _) | (with_reducible refine Below.setCell ?_ ?_ _) | (with_reducible refine Below.trans ?_ (Below.mono (by assumption) ?_)) | (with_reducible exact Nat.le_refl _) | (with_reducible assumption) | omega | (simp; omega) | (simp; done)))
          have ht5 := HV.out.below hbz (Nat.le_refl _)
          obtain ⟨vc, vf, vl⟩ := chcells ht5.hF
          have hck := vc i (by omega)
          have hfk := vf i
          have hz5 := hbz.size
          have HV5 := Lib.hid (ht5.put i (by omega) (-1))
          rw [HX.out] at HV5
          clear vc vf vl ht5 hb6 hbz HV HN' HZ' HX c0 c1 c2 c3 c4 c5 c6 hc5 hf5
          go_wp2
          go_roundw
          case rel => exact ⟨i + 1, by omega, by go_num, HV5.out⟩
          case measure => simp [intOf]; omega
    · obtain rfl : m = i := by omega
      have HV := Lib.hid hv.bel
      have hF : wr.heap[w.heap.size + 1 + 1]? = some (.cells (CH (chN m m)) 144 (0, 0)) := hv.hF
      obtain ⟨cs, hcs, hz⟩ := hv.hz
      have hu := Tryz.underlying144
      have hi : (Tryz.prog.info? 144).map (·.size) = some (CH (chN m m)).size := by rw [CH_size]; kernel_rfl
      have hz2 : cs.size = (CH (chN m m)).size := hcs
      have hone := CH_one (chN m m)
      clear hv HN HE HZ HS1 HS2 HS0 HC0 HTH
      obtain ⟨A, hA⟩ : ∃ A, CH (chN m m) = A := ⟨_, rfl⟩
      rw [hA] at hF hi hz2 hone
      have HA := Lib.hid hA
      clear hA
      go_wp2_with (first | refine wpList_load_row rfl 144 _ rfl (w.heap.size + 1 + 1) rfl 144 A (0, 0) _ hF hu rfl hi ?_ | refine wpList_store_row rfl 144 _ _ rfl (w.heap.size + 1) A rfl rfl 144 _ hz hi hz2 hone ?_ | fail)
      refine bodyPost_ret (results_cell_row rfl _ _ (w.heap.size + 1) 144 A (0, 0) _ rfl (setRow_heap wr (w.heap.size + 1) _ A _ _ hz) hu rfl hi) rfl ?_
      exact ⟨by rw [HA.out], below_setRow HV.out (by omega) A⟩
set_option maxRecDepth 100000 in
set_option maxHeartbeats 4000000 in
/-- impl.characters.of. -/
theorem ofE (m : Nat) (a : Int) (w : World) (h : isSz (m : Int) = true) (ha : El (m : Int) a) :
    Calls Tryz.prog 217 #[.agg (CH (chN (m : Int) m)), elE (m : Int) a] w fun e w' => e = .returned (.int .i64 (chi m a)) ∧ Below w.heap.size w w' := by
  have hq := isSz_le (m : Int) h
  have HN := Lib.hid (fun w => numberE (m : Int) a w h ha.1 ha.2)
  obtain ⟨i, rfl⟩ := Int.eq_ofNat_of_zero_le ha.1
  have hi : i < m := by have := ha.2; omega
  have e0 : chi m (i : Int) = chN m m i := (chN_at hi).symm
  rw [e0]
  clear e0 h ha
  generalize chN (m : Int) m = c at *
  have HCH := Lib.hid (fun (w : World) (b : Nat) (h : w.heap[b]? = some (.cells (CH c) 144 (0, 0))) => chcells h)
  have HH : Hid ((w.alloc (.cells (CH c) 144)).heap[w.heap.size]? = some (.cells (CH c) 144 (0, 0))) := Lib.hid (heap_alloc_new w _)
  generalize CH c = A at *
  go_enter Tryz.func217, Tryz.ntmps217
  go_wp2_with fail
  refine (HN.out _).mono ?_
  rintro e w1 ⟨rfl, hb1⟩
  obtain ⟨vc, vf, vl⟩ := HCH.out w1 w.heap.size ((hb1.block _ (by simp; omega)).trans ((Below.heap_alloc _ _ _ (by simp)).trans HH.out))
  have hci := vc i (by omega)
  have HB1 : Hid (Below w.heap.size w w1) := Lib.hid (by (repeat' (first | (with_reducible assumption) | (with_reducible exact Below.refl _ _) | (with_reducible refine below_drewN ?_ _) | (with_reducible refine Below.drew ?_) | (with_reducible refine Below.alloc ?_ ?_ _) | (with_reducible refine Below.setCell ?_ ?_ _) | (with_reducible refine Below.trans ?_ (Below.mono (by assumption) ?_)) | (with_reducible exact Nat.le_refl _) | (with_reducible assumption) | omega | (simp; omega) | (simp; done))))
  clear vc vf hb1
  go_wp2
  go_ret
  exact ⟨rfl, HB1.out⟩
/-- An odd size. -/
def odq (q : Int) : Bool := isSz q && decide (q % 2 = 1)
theorem odq_nat {q : Int} (h : odq q = true) : ∃ m : Nat, q = (m : Int) ∧ isSz (m : Int) = true ∧ (m : Int) % 2 = 1 := by
  simp only [odq, Bool.and_eq_true, decide_eq_true_eq] at h
  obtain ⟨hs, ho⟩ := h
  have hq := isSz_le q hs
  obtain ⟨m, rfl⟩ := Int.eq_ofNat_of_zero_le (show 0 ≤ q by omega)
  exact ⟨m, rfl, hs, ho⟩
/-- spec.ctOdd. -/
theorem ctOdd_any (q : Int) (w : World) :
    Calls Tryz.prog 194 #[.int .i64 q] w fun e w' => e = .returned (.bool (odq q)) ∧ Below w.heap.size w w' := by
  have HS := Lib.hid (fun w => fdSize_any q w)
  cases hs : isSz q with
  | false =>
    have e0 : odq q = false := by unfold odq; rw [hs, Bool.false_and]
    rw [hs] at HS
    rw [e0]
    clear hs e0
    go_enter Tryz.func194, Tryz.ntmps194
    go_wp2_with fail
    refine (HS.out _).mono ?_
    rintro e w1 ⟨rfl, hb1⟩
    go_wp2
    go_ret
    exact ⟨rfl, hb1⟩
  | true =>
    have e0 : odq q = decide (q % 2 = 1) := by unfold odq; rw [hs, Bool.true_and]
    rw [hs] at HS
    rw [e0]
    have hq := isSz_le q hs
    obtain ⟨m, rfl⟩ := Int.eq_ofNat_of_zero_le (show 0 ≤ q by omega)
    clear hs e0
    by_cases ho : (m : Int) % 2 = 1
    · rw [decide_eq_true ho]
      go_enter Tryz.func194, Tryz.ntmps194
      go_wp2_with fail
      refine (HS.out _).mono ?_
      rintro e w1 ⟨rfl, hb1⟩
      go_wp2
      go_ret
      exact ⟨rfl, hb1⟩
    · rw [decide_eq_false ho]
      have ho' : (m : Int) % 2 = 0 := by omega
      go_enter Tryz.func194, Tryz.ntmps194
      go_wp2_with fail
      refine (HS.out _).mono ?_
      rintro e w1 ⟨rfl, hb1⟩
      go_wp2
      go_ret
      exact ⟨rfl, hb1⟩
/-- spec.ctOf. -/
theorem ctOf_any (m : Nat) (a : Int) (w : World) (h : isSz (m : Int) = true) (ho : (m : Int) % 2 = 1) (a0 : 0 ≤ a) (a1 : a < m) :
    Calls Tryz.prog 196 #[.int .i64 m, .int .i64 a] w fun e w' => e = .returned (.int .i64 (chi m a)) ∧ Below w.heap.size w w' := by
  have HK := Lib.hid (fun w => kdSquare_any m a w h ho a0 a1)
  by_cases h0 : a = 0
  · subst h0
    rw [chi_zero]
    clear h
    go_enter Tryz.func196, Tryz.ntmps196
    go_wp2
    go_ret
    exact ⟨rfl, Below.refl _ _⟩
  · cases hn : nsq (m : Int) a with
    | true =>
      rw [hn] at HK
      rw [chi_yes h0 hn]
      clear h hn ho
      go_enter Tryz.func196, Tryz.ntmps196
      go_wp2_with fail
      refine (HK.out _).mono ?_
      rintro e w1 ⟨rfl, hb1⟩
      go_wp2
      go_ret
      exact ⟨rfl, hb1⟩
    | false =>
      rw [hn] at HK
      rw [chi_no h0 hn]
      clear h hn ho
      go_enter Tryz.func196, Tryz.ntmps196
      go_wp2_with fail
      refine (HK.out _).mono ?_
      rintro e w1 ⟨rfl, hb1⟩
      go_wp2
      go_ret
      exact ⟨rfl, hb1⟩
/-- An odd size and an element. -/
def ode (q a : Int) : Bool := inE q a && decide (q % 2 = 1)
theorem ode_nat {q a : Int} (h : ode q a = true) : ∃ m : Nat, q = (m : Int) ∧ isSz (m : Int) = true ∧ (m : Int) % 2 = 1 ∧ inE (m : Int) a = true := by
  simp only [ode, Bool.and_eq_true, decide_eq_true_eq] at h
  obtain ⟨ha, ho⟩ := h
  have hs := (inE_yes ha).1
  have hq := isSz_le q hs
  obtain ⟨m, rfl⟩ := Int.eq_ofNat_of_zero_le (show 0 ≤ q by omega)
  exact ⟨m, rfl, hs, ho, ha⟩
theorem ode_odq {q a : Int} (h : odq q = false) : ode q a = false := by
  cases ha : inE q a with
  | false => simp [ode, ha]
  | true =>
    have hs := (inE_yes ha).1
    unfold odq at h
    rw [hs, Bool.true_and] at h
    simp [ode, ha, h]
theorem ode_in {q a : Int} (h : odq q = true) : ode q a = inE q a := by
  simp only [odq, Bool.and_eq_true] at h
  simp [ode, h.2]
end Go.Proofs.YtapglncgicfjnabGreat
