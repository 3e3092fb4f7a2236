/- PolyOfCycle, of both, by contracts; the walk of its law. -/
import Derived.Test.YtommagdddleoiaaLQ
import Derived.Test.YtommagdddleoiaaLN
namespace Go.Proofs.Ytommagdddleoiaa
open Go.RowKit
/-- A list of integers, as read, with its capacity. -/
def SlC (w : World) (v : Value) (l : List Int) : Prop := Sl w v l ∧ ∀ a k cap, v = .slice a k cap → k ≤ cap
theorem Row.slc {w : World} {B : Nat} {v : Value} {l : List Int} (h : Row w B v l) : SlC w v l := ⟨h.sl, h.capv⟩
theorem all_once {m : Nat} {l : List Int} (h : l.all (inF (m : Int)) = true) : once m l = dis (fun i => l.getD i 0) l.length := by
  unfold once
  rw [h, Bool.true_and]
theorem all_once_no {m : Nat} {l : List Int} (h : l.all (inF (m : Int)) = false) : once m l = false := by
  unfold once
  rw [h, Bool.false_and]
set_option maxHeartbeats 1000000 in
/-- spec.peList. -/
theorem peList_any (m : Nat) (v : Value) (l : List Int) (w : World) (h : isSz (m : Int) = true) (hv : SlC w v l) (hl : l.length ≤ 1048576) :
    Calls Try.prog 71 #[.int .i64 m, v] w fun e w' => e = .returned (.bool (once m l)) ∧ Below w.heap.size w w' := by
  have hq := isSz_le (m : Int) h
  obtain ⟨hv, hcap⟩ := hv
  have HL := Lib.hid (fun w' (hb : Below w.heap.size w w') => by have := l1All_any v l 0 ((m : Int) - 1) w' (hv.below hb (Nat.le_refl _)) hl; rw [all_inF] at this; exact this)
  have HD := Lib.hid (fun w' (hb : Below w.heap.size w w') (hm : l.length ≤ 1000) => peDoes_any v (fun i => l.getD i 0) l.length w' (hv.tell.below hb (Nat.le_refl _)) hcap hm)
  have HS : Hid (isSz (m : Int) = true) := Lib.hid h
  obtain ⟨a, cap, rfl⟩ := hv.form
  clear h hv hcap
  by_cases hlen : l.length ≤ m
  · have hlen' : (l.length : Int) ≤ (m : Int) := by omega
    cases hall : l.all (inF (m : Int)) with
    | false =>
      have HG := Lib.hid (all_once_no hall)
      rw [hall] at HL
      clear hall HD
      generalize once m l = r at *
      generalize l.length = n at *
      go_enter Try.func71, Try.ntmps71
      go_wp2_with fail
      refine (fdSize_any _ _).mono ?_
      rintro e w1 ⟨rfl, hb1⟩
      rw [HS.out]
      go_wp2_with fail
      refine (HL.out _ hb1).mono ?_
      rintro e w2 ⟨rfl, rfl⟩
      go_wp2
      go_ret
      exact ⟨ret_bool HG.out.symm, hb1⟩
    | true =>
      have HG := Lib.hid (all_once hall)
      rw [hall] at HL
      clear hall
      generalize once m l = r at *
      generalize dis (fun i => l.getD i 0) l.length = r2 at *
      generalize l.length = n at *
      go_enter Try.func71, Try.ntmps71
      go_wp2_with fail
      refine (fdSize_any _ _).mono ?_
      rintro e w1 ⟨rfl, hb1⟩
      rw [HS.out]
      go_wp2_with fail
      refine (HL.out _ hb1).mono ?_
      rintro e w2 ⟨rfl, rfl⟩
      go_wp2_with fail
      refine (HD.out _ hb1 (by omega)).mono ?_
      rintro e w2 ⟨rfl, rfl⟩
      go_wp2
      go_ret
      exact ⟨ret_bool HG.out.symm, hb1⟩
  · have HG : Hid (once m l = false) := Lib.hid (by
      cases ho : once m l with
      | false => rfl
      | true => exact absurd (once_short ho) hlen)
    have hlen' : ¬ (l.length : Int) ≤ (m : Int) := by omega
    clear HL HD
    generalize once m l = r at *
    generalize l.length = n at *
    go_enter Try.func71, Try.ntmps71
    go_wp2_with fail
    refine (fdSize_any _ _).mono ?_
    rintro e w1 ⟨rfl, hb1⟩
    rw [HS.out]
    go_wp2
    go_ret
    exact ⟨ret_bool HG.out.symm, hb1⟩
theorem peList_none (q : Int) (v : Value) (l : List Int) (w : World) (h : isSz q = false) (hv : SlC w v l) :
    Calls Try.prog 71 #[.int .i64 q, v] w fun e w' => e = .returned (.bool false) ∧ Below w.heap.size w w' := by
  have HS := Lib.hid h
  obtain ⟨a, cap, rfl⟩ := hv.1.form
  clear h hv
  go_enter Try.func71, Try.ntmps71
  go_wp2_with fail
  refine (fdSize_any _ _).mono ?_
  rintro e w1 ⟨rfl, hb1⟩
  rw [HS.out]
  go_wp2
  go_ret
  exact ⟨rfl, hb1⟩
theorem spec_PolyOfCycle_of (q : Int) (v : Value) (w : World) (hp : Calls Try.prog 71 #[.int .i64 q, v] w fun e w' => e = .returned (.bool false) ∧ Below w.heap.size w w') :
    Calls Try.prog 35 #[.int .i64 q, v] w fun e w' => e = .returned (.tuple #[.slice none 0 0, .bool false]) ∧ Below w.heap.size w w' := by
  have HP := Lib.hid hp
  clear hp
  go_enter Try.func35, Try.ntmps35
  go_wp2_with fail
  refine HP.out.mono ?_
  rintro e w1 ⟨rfl, hb1⟩
  go_wp2
  go_ret2
  exact ⟨rfl, hb1⟩
theorem spec_PolyOfCycle_yes (m : Nat) (v : Value) (l : List Int) (w : World) (h : isSz (m : Int) = true) (hv : SlC w v l) (ho : once m l = true) :
    Calls Try.prog 35 #[.int .i64 m, v] w fun e w' => ∃ v', e = .returned (.tuple #[v', .bool true]) ∧ Row w' w.heap.size v' (ftl m (cyT l l.length)) ∧ Below w.heap.size w w' := by
  have hq := isSz_le (m : Int) h
  have hlen := once_short ho
  have hp := peList_any m v l w h hv (by omega)
  rw [ho] at hp
  have HP := Lib.hid hp
  have HO := Lib.hid (fun w' (hb : Below w.heap.size w w') => peOf_any m v l w' h (hv.1.below hb (Nat.le_refl _)) (once_el ho) hlen)
  clear hp h hv ho
  generalize ftl m (cyT l l.length) = r at *
  go_enter Try.func35, Try.ntmps35
  go_wp2_with fail
  refine HP.out.mono ?_
  rintro e w1 ⟨rfl, hb1⟩
  have HB1 := Lib.hid hb1; clear hb1
  go_wp2_with fail
  refine (HO.out _ HB1.out).mono ?_
  rintro e w2 ⟨v2, rfl, hr2, hb2⟩
  have HR2 := Lib.hid hr2; clear hr2
  have HB2 := Lib.hid hb2; clear hb2
  go_wp2
  go_ret2
  exact ⟨_, rfl, HR2.out.mono HB1.out.size, HB1.out.trans (HB2.out.mono HB1.out.size)⟩
theorem impl_PolyOfCycle_none (q : Int) (v : Value) (w : World) (h : isSz q = false) :
    Calls Try.prog 36 #[.int .i64 q, v] w fun e w' => e = .returned (.tuple #[.slice none 0 0, .bool false]) ∧ Below w.heap.size w w' := by
  have HF := Lib.hid (fun w => fieldOf_no q w h)
  clear h
  go_enter Try.func36, Try.ntmps36
  go_wp2_with fail
  refine (HF.out _).mono ?_
  rintro e w1 ⟨rfl, hb1⟩
  have hz_hb1 := hb1.size; (try simp at hz_hb1)
  have HB1 := Lib.hid hb1; clear hb1
  go_wp2_with fail
  go_ret2
  have hb1 := HB1.out
  exact ⟨rfl, by (repeat' (first | (with_reducible assumption) | (with_reducible exact Below.refl _ _) | (with_reducible refine below_drewN ?_ _) | (with_reducible refine Below.drew ?_) | (with_reducible refine Below.alloc ?_ ?_ _) | (with_reducible refine Below.setCell ?_ ?_ _) | (with_reducible refine Below.trans ?_ (Below.mono (by assumption) ?_)) | (with_reducible exact Nat.le_refl _) | (with_reducible assumption) | omega | (simp; omega) | (simp; done)))⟩
theorem impl_PolyOfCycle_no (m : Nat) (v : Value) (l : List Int) (w : World) (h : isSz (m : Int) = true) (hv : SlC w v l) (hl : l.length ≤ 1048576) (hw : ∀ i, i < l.length → (Lit.int .i64 (l.getD i 0)).wf = true) (ho : once m l = false) :
    Calls Try.prog 36 #[.int .i64 m, v] w fun e w' => e = .returned (.tuple #[.slice none 0 0, .bool false]) ∧ Below w.heap.size w w' := by
  have HF := Lib.hid (fun w => fieldOf_yes (m : Int) w h)
  have hh := fun w' (hb : Below w.heap.size w w') => hasAllOnceE m v l w' h (hv.1.below hb (Nat.le_refl _)) hl hw
  rw [ho] at hh
  have HH := Lib.hid hh
  clear hh h hv hw ho
  go_enter Try.func36, Try.ntmps36
  go_wp2_with fail
  refine (HF.out _).mono ?_
  rintro e w1 ⟨rfl, hb1⟩
  have hz_hb1 := hb1.size; (try simp at hz_hb1)
  have HB1 := Lib.hid hb1; clear hb1
  go_wp2_with fail
  refine (HH.out _ (by have hb1 := HB1.out; (repeat' (first | (with_reducible assumption) | (with_reducible exact Below.refl _ _) | (with_reducible refine below_drewN ?_ _) | (with_reducible refine Below.drew ?_) | (with_reducible refine Below.alloc ?_ ?_ _) | (with_reducible refine Below.setCell ?_ ?_ _) | (with_reducible refine Below.trans ?_ (Below.mono (by assumption) ?_)) | (with_reducible exact Nat.le_refl _) | (with_reducible assumption) | omega | (simp; omega) | (simp; done))))).mono ?_
  rintro e w2 ⟨rfl, hb2⟩
  have hz_hb2 := hb2.size; (try simp at hz_hb2)
  have HB2 := Lib.hid hb2; clear hb2
  go_wp2_with fail
  go_ret2
  have hb1 := HB1.out
  have hb2 := HB2.out
  exact ⟨rfl, by (repeat' (first | (with_reducible assumption) | (with_reducible exact Below.refl _ _) | (with_reducible refine below_drewN ?_ _) | (with_reducible refine Below.drew ?_) | (with_reducible refine Below.alloc ?_ ?_ _) | (with_reducible refine Below.setCell ?_ ?_ _) | (with_reducible refine Below.trans ?_ (Below.mono (by assumption) ?_)) | (with_reducible exact Nat.le_refl _) | (with_reducible assumption) | omega | (simp; omega) | (simp; done)))⟩
/-- The memory of the loop. -/
structure PCy (w0 wr : World) (FB m : Nat) (c : Nat → Int) (g : Nat) : Prop where
  hf : wr.heap[FB]? = some (ffblk (m : Int))
  hk : Blk wr g m
  he : Els wr g (m : Int) c m
  bel : Below w0.heap.size w0 wr
  lt : FB < g
  low : w0.heap.size ≤ FB
theorem PCy.below {w0 wr w' : World} {FB m g B : Nat} {c : Nat → Int} (h : PCy w0 wr FB m c g) (hb : Below B wr w') (hB : wr.heap.size ≤ B) : PCy w0 w' FB m c g := by
  have hg := h.hk.lt
  have hl := h.lt
  have hs := h.bel.size
  exact ⟨(hb.block _ (by omega)).trans h.hf, h.hk.below hb (by omega), h.he.below hb (by omega), h.bel.trans (hb.mono (by omega)), hl, h.low⟩
theorem PCy.step {w0 wr : World} {FB m g i : Nat} {c : Nat → Int} (h : PCy w0 wr FB m c g) (hi : i < m) (x : Int) : PCy w0 (put7i wr g i (m : Int) x) FB m (upd c i x) g := by
  have hl := h.lt
  have hw := h.low
  obtain ⟨he, hk⟩ := Els.put x h.hk hi (Nat.le_refl _) h.he
  exact ⟨(put7i_other _ _ _ _ _ _ (by omega)).trans h.hf, hk, he, put7i_below h.bel _ (by omega) _ _ _, hl, hw⟩
set_option maxHeartbeats 4000000 in
set_option maxRecDepth 100000 in
theorem impl_PolyOfCycle_yes (m : Nat) (v : Value) (l : List Int) (w : World) (h : isSz (m : Int) = true) (hv : SlC w v l) (hw : ∀ i, i < l.length → (Lit.int .i64 (l.getD i 0)).wf = true) (ho : once m l = true) :
    Calls Try.prog 36 #[.int .i64 m, v] w fun e w' => ∃ v', e = .returned (.tuple #[v', .bool true]) ∧ Row w' w.heap.size v' (ftl m (cyT l l.length)) ∧ Below w.heap.size w w' := by
  have hq := isSz_le (m : Int) h
  have hlen := once_short ho
  have hel := once_el ho
  have HF := Lib.hid (fun w => fieldOf_yes (m : Int) w h)
  have hh := fun w' (hb : Below w.heap.size w w') => hasAllOnceE m v l w' h (hv.1.below hb (Nat.le_refl _)) (by omega) hw
  rw [ho] at hh
  have HH := Lib.hid hh
  have HES := Lib.hid (fun w => elements_any (m : Int) w h)
  rw [Int.toNat_natCast] at HES
  have HWT := Lib.hid (fun v w' (hs : Se w' v (m : Int) (cyT l l.length) m) => withTableT m v (cyT l l.length) w' h hs (cyT_el hel _ (Nat.le_refl _)))
  have HN := Lib.hid (fun v f k w' (hs : Se w' v (m : Int) f k) (hf : ∀ i, El (m : Int) (f i)) (hk : k ≤ m) => numbersE (m : Int) v f k w' h hs (fun i _ => hf i) (by omega))
  have HSTEP : Hid (∀ k, cyT l (k + 1) = upd (cyT l k) (l.getD k 0).toNat (l.getD ((k + 1) % l.length) 0)) := Lib.hid fun _ => rfl
  have H0 : Hid (cyT l 0 = fun i : Nat => (i : Int)) := Lib.hid rfl
  have HEL := Lib.hid (fun i w (hi : i < l.length) => elementE (m : Int) (l.getD i 0) w h (hel i hi).1 (hel i hi).2)
  have HL := Lib.hid hel
  have HOP : Hid (0 < l.length → ∃ b off cap, v = .slice (some ⟨b, off, none⟩) l.length cap ∧ b < w.heap.size ∧ ∀ j, j < l.length → w.cell? ⟨b, off + j, none⟩ = some (.int .i64 (l.getD j 0))) := Lib.hid fun h0 => hv.1.open rfl h0
  obtain ⟨a, cap, rfl⟩ := hv.1.form
  clear hh h hv hw ho hel
  generalize cyT l = C at *
  generalize ftl m (C l.length) = r at *
  generalize hn : l.length = n at *
  clear hn
  go_enter Try.func36, Try.ntmps36
  go_wp2_with fail
  refine (HF.out _).mono ?_
  rintro e w1 ⟨rfl, hb1⟩
  have hz_hb1 := hb1.size; (try simp at hz_hb1)
  have HB1 := Lib.hid hb1; clear hb1
  go_wp2_with fail
  refine (HH.out _ (by have hb1 := HB1.out; (repeat' (first | (with_reducible assumption) | (with_reducible exact Below.refl _ _) | (with_reducible refine below_drewN ?_ _) | (with_reducible refine Below.drew ?_) | (with_reducible refine Below.alloc ?_ ?_ _) | (with_reducible refine Below.setCell ?_ ?_ _) | (with_reducible refine Below.trans ?_ (Below.mono (by assumption) ?_)) | (with_reducible exact Nat.le_refl _) | (with_reducible assumption) | omega | (simp; omega) | (simp; done))))).mono ?_
  rintro e w2 ⟨rfl, hb2⟩
  have hz_hb2 := hb2.size; (try simp at hz_hb2)
  obtain ⟨q0, q1, q2, qf, ql⟩ := cells3' ((hb2.block w1.heap.size (by simp)).trans (heap_alloc_new w1 (ffblk (m : Int))))
  have HB2 := Lib.hid hb2; clear hb2
  go_wp2_with fail
  refine (HES.out _).mono ?_
  rintro e w3 ⟨g, cp, rfl, hg, hk3, he3, hb3⟩
  try simp at hg
  have hpc : PCy w w3 w1.heap.size m (C 0) g := by
    have hb1 := HB1.out
    have hb2 := HB2.out
    have hff : (w1.alloc (ffblk (m : Int))).heap[w1.heap.size]? = some (ffblk (m : Int)) := heap_alloc_new w1 _
    have hb23 : Below (w1.heap.size + 1) (w1.alloc (ffblk (m : Int))) w3 := by
      have x2 : Below (w1.heap.size + 1) (w1.alloc (ffblk (m : Int))) w2 := by (repeat' (first | (with_reducible assumption) | (with_reducible exact Below.refl _ _) | (with_reducible refine below_drewN ?_ _) | (with_reducible refine Below.drew ?_) | (with_reducible refine Below.alloc ?_ ?_ _) | (with_reducible refine Below.setCell ?_ ?_ _) | (with_reducible refine Below.trans ?_ (Below.mono (by assumption) ?_)) | (with_reducible exact Nat.le_refl _) | (with_reducible assumption) | omega | (simp; omega) | (simp; done)))
      exact x2.trans (hb3.mono (by omega))
    exact ⟨(hb23.block _ (by omega)).trans hff, hk3, by rw [H0.out]; exact he3, by (repeat' (first | (with_reducible assumption) | (with_reducible exact Below.refl _ _) | (with_reducible refine below_drewN ?_ _) | (with_reducible refine Below.drew ?_) | (with_reducible refine Below.alloc ?_ ?_ _) | (with_reducible refine Below.setCell ?_ ?_ _) | (with_reducible refine Below.trans ?_ (Below.mono (by assumption) ?_)) | (with_reducible exact Nat.le_refl _) | (with_reducible assumption) | omega | (simp; omega) | (simp; done))), by omega, by omega⟩
  have HPC := Lib.hid hpc
  clear hpc hk3 he3 hb3
  go_wp2_with fail
  go_loopw [28] (fun vi wr => ∃ k : Nat, k ≤ n ∧ vi = .int .i64 k ∧ PCy w wr w1.heap.size m (C k) g) (fun vi _ => n - (intOf vi).toNat)
  case atStart => exact ⟨0, Nat.zero_le _, rfl, HPC.out⟩
  case round =>
    obtain ⟨k, hkn, rfl, ht⟩ := hrel
    obtain ⟨p0, p1, p2, pf, pl0⟩ := cells3' ht.hf
    have hzb := ht.bel.size
    have hgl := ht.hk.lt
    have hgt := ht.lt
    have hlow := ht.low
    by_cases hlt : k < n
    · obtain ⟨b, off, cap', hv', hb, hc⟩ := HOP.out (by omega)
      cases hv'
      have hc1 := (ht.bel.cell (p := ⟨b, off + k, none⟩) hb).trans (hc k hlt)
      have hml : (k + 1) % n < n := Nat.mod_lt _ (by omega)
      have hc2 := (ht.bel.cell (p := ⟨b, off + (k + 1) % n, none⟩) hb).trans (hc _ hml)
      obtain ⟨x0, x1⟩ := HL.out k hlt
      have HST := Lib.hid (HSTEP.out k)
      have HE' := Lib.hid (fun w => HEL.out ((k + 1) % n) w hml)
      have hrem := mod_next k n hlt
      obtain ⟨X, hX⟩ := Int.eq_ofNat_of_zero_le x0
      rw [hX] at hc1 x1 HST
      rw [Int.toNat_natCast] at HST
      have hXm : X < m := by omega
      obtain ⟨e0, e1, e2, e3, e4, e5, e6⟩ := ht.he X hXm
      have fr := ht.hk.free
      have HT := Lib.hid ht; clear ht hc hX x0
      generalize l.getD ((k + 1) % n) 0 = y at *
      generalize (k + 1) % n = K at *
      generalize C k X = z at *
      go_wp2_with fail
      go_region_with (go_at_call 74; refine (HE'.out _).mono ?_; rintro e w5 ⟨rfl, hb5⟩; obtain ⟨hc5, hf5⟩ := bcell hb5; (try simp only [World.size_drew] at hc5 hf5); have hz5 := hb5.size; (try simp at hz5); have HB5 := Lib.hid hb5; clear hb5; have l5 : g < w5.heap.size := (by omega))
      all_goals
        go_wp2
        go_roundw
        case rel =>
          have hb5 := HB5.out
          have t2 := (HT.out.below (B := wr.heap.size) (w' := w5) (by (repeat' (first | (with_reducible assumption) | (with_reducible exact Below.refl _ _) | (with_reducible refine below_drewN ?_ _) | (with_reducible refine Below.drew ?_) | (with_reducible refine Below.alloc ?_ ?_ _) | (with_reducible refine Below.setCell ?_ ?_ _) | (with_reducible refine Below.trans ?_ (Below.mono (by assumption) ?_)) | (with_reducible exact Nat.le_refl _) | (with_reducible assumption) | omega | (simp; omega) | (simp; done)))) (Nat.le_refl _)).step hXm y
          refine ⟨k + 1, by omega, by go_num, ?_⟩
          rw [HST.out]
          exact t2
        case measure => (simp [intOf]; try omega)
    · obtain rfl : n = k := by omega
      have HT := Lib.hid ht; clear ht
      have HSE : Hid (Se wr (.slice (some ⟨g, 0, none⟩) m cp) (m : Int) (C n) m) := Lib.hid ⟨g, cp, rfl, hgl, HT.out.he⟩
      go_wp2_with fail
      refine (HWT.out _ _ HSE.out).mono ?_
      rintro e w6 ⟨g6, k6, c6', f6, rfl, hg6, he6, hf6, hk6, hfl6, hb6⟩
      have hz_hb6 := hb6.size; (try simp at hz_hb6)
      have HE6 := Lib.hid he6; clear he6
      have HF6 := Lib.hid hf6; clear hf6
      have HB6 : Hid (Below w.heap.size w w6) := Lib.hid (HT.out.bel.trans (hb6.mono hzb))
      clear hb6
      go_wp2_with fail
      refine (HN.out _ _ _ _ ⟨g6, _, rfl, hg6, HE6.out⟩ HF6.out hk6).mono ?_
      rintro e w7 ⟨v7, rfl, hr7, hb7⟩
      have HR7 := Lib.hid hr7; clear hr7
      have HB7 := Lib.hid hb7; clear hb7
      go_wp2
      go_ret2
      exact ⟨_, rfl, by rw [← hfl6]; exact HR7.out.mono HB6.out.size, HB6.out.trans (HB7.out.mono HB6.out.size)⟩
theorem key_PolyOfCycle (q : Int) (l_l : List Int) (b_l : l_l.length ≤ 1048576) (w_l : ∀ x ∈ l_l, (Lit.int .i64 x).wf = true) : ∃ (r : List Int) (o : Bool), r.length ≤ 1048576 ∧ (∀ (w : World) (v_l : Value) (_ : SlC w v_l l_l), Calls Try.prog 35 #[.int .i64 q, v_l] w fun e w' => ∃ v, e = .returned (.tuple #[v, .bool o]) ∧ Row w' w.heap.size v r ∧ Below w.heap.size w w') ∧
      (∀ (w : World) (v_l : Value) (_ : SlC w v_l l_l), Calls Try.prog 36 #[.int .i64 q, v_l] w fun e w' => ∃ v, e = .returned (.tuple #[v, .bool o]) ∧ Row w' w.heap.size v r ∧ Below w.heap.size w w') := by
  have hw : ∀ i, i < l_l.length → (Lit.int .i64 (l_l.getD i 0)).wf = true := fun i hi => by
    rw [show l_l.getD i 0 = l_l[i] by simp [List.getD, hi]]
    exact w_l _ (List.getElem_mem hi)
  cases hs : isSz q with
  | false => exact ⟨[], false, by simp, fun w v hv => (spec_PolyOfCycle_of q v w (peList_none q v l_l w hs hv)).mono fun _ _ ⟨he, hb⟩ => ⟨_, he, Row.nil _ _, hb⟩, fun w v hv => (impl_PolyOfCycle_none q v w hs).mono fun _ _ ⟨he, hb⟩ => ⟨_, he, Row.nil _ _, hb⟩⟩
  | true =>
    have hq := isSz_le q hs
    obtain ⟨m, rfl⟩ := Int.eq_ofNat_of_zero_le (show 0 ≤ q by omega)
    cases ho : once m l_l with
    | false => exact ⟨[], false, by simp, fun w v hv => (spec_PolyOfCycle_of (m : Int) v w (by have := peList_any m v l_l w hs hv b_l; rw [ho] at this; exact this)).mono fun _ _ ⟨he, hb⟩ => ⟨_, he, Row.nil _ _, hb⟩, fun w v hv => (impl_PolyOfCycle_no m v l_l w hs hv b_l hw ho).mono fun _ _ ⟨he, hb⟩ => ⟨_, he, Row.nil _ _, hb⟩⟩
    | true => exact ⟨ftl m (cyT l_l l_l.length), true, by have := ftl_len m (cyT l_l l_l.length); omega, fun w v hv => spec_PolyOfCycle_yes m v l_l w hs hv ho, fun w v hv => impl_PolyOfCycle_yes m v l_l w hs hv hw ho⟩
set_option maxRecDepth 100000 in
set_option maxHeartbeats 4000000 in
/-- laws.FnExactPolyOfCycle. -/
theorem walk_FnExactPolyOfCycle (q : Int) (a_l : Option Addr) (n_l c_l : Nat) (z_l : List Int) (w : World) (_h_q : (Lit.int .i64 q).wf = true) (h_l : IsRow .i64 w a_l n_l c_l z_l) :
    Calls Try.prog 12 #[.int .i64 q, .slice a_l n_l c_l] w fun e w' => e = .returned (.bool true) ∧ Below w.heap.size w w' := by
  clear _h_q
  obtain ⟨hs_l, hl_l, hw_l⟩ := h_l.sl
  generalize z_l.take n_l = l_l at *
  clear h_l
  subst hl_l
  by_cases b_l : l_l.length ≤ 1048576
  rotate_left
  · have hn_l : (1048576 : Int) < (l_l.length : Int) := by omega
    go_enter Try.func12, Try.ntmps12
    go_wp2
    go_ret
    exact ⟨rfl, Below.refl _ _⟩
  have hn_l : ¬ (1048576 : Int) < (l_l.length : Int) := by omega
  obtain ⟨r, o, hr, k1, k2⟩ := key_PolyOfCycle q l_l b_l hw_l
  have K1 := Lib.hid k1; clear k1
  have K2 := Lib.hid k2; clear k2
  have HS_l := Lib.hid hs_l; clear hs_l
  have HB0 : Hid (Below w.heap.size w w) := Lib.hid (Below.refl _ _)
  go_enter Try.func12, Try.ntmps12
  go_wp2_with fail
  refine (toIntS_any _ l_l _ (HS_l.out.below HB0.out (Nat.le_refl _)) b_l).mono ?_
  rintro e w1 ⟨v_s_l, rfl, hrw1, hbw1⟩
  have hzw1 : w.heap.size ≤ w1.heap.size := hbw1.size
  have HBw1 : Hid (Below w.heap.size w w1) := Lib.hid (HB0.out.trans (hbw1.mono HB0.out.size))
  have hww1 := HBw1.out.size
  clear hbw1 HB0
  have R_s_l_w1 := Lib.hid hrw1; clear hrw1
  have lt_s_l : Hid (∀ g, v_s_l.ownBlock = some g → w.heap.size ≤ g ∧ g < w1.heap.size) := Lib.hid R_s_l_w1.out.lt
  go_wp2_with fail
  refine (K1.out _ v_s_l R_s_l_w1.out.slc).mono ?_
  rintro e w2 ⟨v_sp, rfl, hrw2, hbw2⟩
  have hzw2 : w1.heap.size ≤ w2.heap.size := hbw2.size
  have R_s_l_w2 := Lib.hid (R_s_l_w1.out.below hbw2)
  clear R_s_l_w1
  have HBw2 : Hid (Below w.heap.size w w2) := Lib.hid (HBw1.out.trans (hbw2.mono HBw1.out.size))
  have hww2 := HBw2.out.size
  clear hbw2 HBw1
  have R_sp_w2 := Lib.hid hrw2; clear hrw2
  have lt_sp : Hid (∀ g, v_sp.ownBlock = some g → w1.heap.size ≤ g ∧ g < w2.heap.size) := Lib.hid R_sp_w2.out.lt
  clear R_s_l_w2 lt_s_l
  go_wp2_with fail
  refine (toIntS_any _ l_l _ (HS_l.out.below HBw2.out (Nat.le_refl _)) b_l).mono ?_
  rintro e w3 ⟨v_x_l, rfl, hrw3, hbw3⟩
  have hzw3 : w2.heap.size ≤ w3.heap.size := hbw3.size
  have R_sp_w3 := Lib.hid (R_sp_w2.out.below hbw3)
  clear R_sp_w2
  have HBw3 : Hid (Below w.heap.size w w3) := Lib.hid (HBw2.out.trans (hbw3.mono HBw2.out.size))
  have hww3 := HBw3.out.size
  clear hbw3 HBw2
  have R_x_l_w3 := Lib.hid hrw3; clear hrw3
  have lt_x_l : Hid (∀ g, v_x_l.ownBlock = some g → w2.heap.size ≤ g ∧ g < w3.heap.size) := Lib.hid R_x_l_w3.out.lt
  go_wp2_with fail
  refine (K2.out _ v_x_l R_x_l_w3.out.slc).mono ?_
  rintro e w4 ⟨v_im, rfl, hrw4, hbw4⟩
  have hzw4 : w3.heap.size ≤ w4.heap.size := hbw4.size
  have R_sp_w4 := Lib.hid (R_sp_w3.out.below hbw4)
  clear R_sp_w3
  have R_x_l_w4 := Lib.hid (R_x_l_w3.out.below hbw4)
  clear R_x_l_w3
  have HBw4 : Hid (Below w.heap.size w w4) := Lib.hid (HBw3.out.trans (hbw4.mono HBw3.out.size))
  have hww4 := HBw4.out.size
  clear hbw4 HBw3
  have R_im_w4 := Lib.hid hrw4; clear hrw4
  have lt_im : Hid (∀ g, v_im.ownBlock = some g → w3.heap.size ≤ g ∧ g < w4.heap.size) := Lib.hid R_im_w4.out.lt
  go_wp2_with fail
  refine (eq_same v_im v_sp r _ _ _ R_im_w4.out R_sp_w4.out (by omega)).mono ?_
  rintro e w5 ⟨rfl, hbw5⟩
  have hzw5 : w4.heap.size ≤ w5.heap.size := hbw5.size
  have R_sp_w5 := Lib.hid (R_sp_w4.out.below hbw5)
  clear R_sp_w4
  have R_x_l_w5 := Lib.hid (R_x_l_w4.out.below hbw5)
  clear R_x_l_w4
  have R_im_w5 := Lib.hid (R_im_w4.out.below hbw5)
  clear R_im_w4
  have HBw5 : Hid (Below w.heap.size w w5) := Lib.hid (HBw4.out.trans (hbw5.mono HBw4.out.size))
  have hww5 := HBw5.out.size
  clear hbw5 HBw4
  go_wp2_with fail
  refine (toIntS_any _ l_l _ (HS_l.out.below HBw5.out (Nat.le_refl _)) b_l).mono ?_
  rintro e w6 ⟨v_y_l, rfl, hrw6, hbw6⟩
  have hzw6 : w5.heap.size ≤ w6.heap.size := hbw6.size
  have R_sp_w6 := Lib.hid (R_sp_w5.out.below hbw6)
  clear R_sp_w5
  have R_x_l_w6 := Lib.hid (R_x_l_w5.out.below hbw6)
  clear R_x_l_w5
  have R_im_w6 := Lib.hid (R_im_w5.out.below hbw6)
  clear R_im_w5
  have HBw6 : Hid (Below w.heap.size w w6) := Lib.hid (HBw5.out.trans (hbw6.mono HBw5.out.size))
  have hww6 := HBw6.out.size
  clear hbw6 HBw5
  have R_y_l_w6 := Lib.hid hrw6; clear hrw6
  have lt_y_l : Hid (∀ g, v_y_l.ownBlock = some g → w5.heap.size ≤ g ∧ g < w6.heap.size) := Lib.hid R_y_l_w6.out.lt
  go_wp2_with fail
  refine (eq_same v_x_l v_y_l l_l _ _ _ R_x_l_w6.out R_y_l_w6.out (by omega)).mono ?_
  rintro e w7 ⟨rfl, hbw7⟩
  have hzw7 : w6.heap.size ≤ w7.heap.size := hbw7.size
  have R_sp_w7 := Lib.hid (R_sp_w6.out.below hbw7)
  clear R_sp_w6
  have R_x_l_w7 := Lib.hid (R_x_l_w6.out.below hbw7)
  clear R_x_l_w6
  have R_im_w7 := Lib.hid (R_im_w6.out.below hbw7)
  clear R_im_w6
  have R_y_l_w7 := Lib.hid (R_y_l_w6.out.below hbw7)
  clear R_y_l_w6
  have HBw7 : Hid (Below w.heap.size w w7) := Lib.hid (HBw6.out.trans (hbw7.mono HBw6.out.size))
  have hww7 := HBw7.out.size
  clear hbw7 HBw6
  clear R_y_l_w7 lt_y_l
  go_wp2_with fail
  refine (mark_any v_x_l l_l _ (1) _ R_x_l_w7.out (by omega) (by omega) (by omega)).mono ?_
  rintro e w8 ⟨rfl, hrw8, hgw8⟩
  have hzw8 : w7.heap.size ≤ w8.heap.size := hgw8.size
  have R_sp_w8 := Lib.hid (R_sp_w7.out.keep (w' := w8) fun g hg => hgw8.block g (R_sp_w7.out.lt g hg).2 fun e => by have h1 := lt_sp.out g hg; have h2 := lt_x_l.out g e.symm; omega)
  clear R_sp_w7
  have R_im_w8 := Lib.hid (R_im_w7.out.keep (w' := w8) fun g hg => hgw8.block g (R_im_w7.out.lt g hg).2 fun e => by have h1 := lt_im.out g hg; have h2 := lt_x_l.out g e.symm; omega)
  clear R_im_w7
  have HBw8 : Hid (Below w.heap.size w w8) := Lib.hid (Below.grown HBw7.out hgw8 (by omega) (fun g e => by have h2 := lt_x_l.out g e; omega))
  have hww8 := HBw8.out.size
  have R_x_l_w8 := Lib.hid hrw8
  clear hrw8 hgw8 HBw7 R_x_l_w7
  clear R_x_l_w8 lt_x_l
  have hpos : ¬ (1 + (l_l.length : Int)) < (0 : Int) := by omega
  go_wp2_with fail
  refine (eq_same v_im v_sp r _ _ _ R_im_w8.out R_sp_w8.out (by omega)).mono ?_
  rintro e w9 ⟨rfl, hbw9⟩
  have hzw9 : w8.heap.size ≤ w9.heap.size := hbw9.size
  have R_sp_w9 := Lib.hid (R_sp_w8.out.below hbw9)
  clear R_sp_w8
  have R_im_w9 := Lib.hid (R_im_w8.out.below hbw9)
  clear R_im_w8
  have HBw9 : Hid (Below w.heap.size w w9) := Lib.hid (HBw8.out.trans (hbw9.mono HBw8.out.size))
  have hww9 := HBw9.out.size
  clear hbw9 HBw8
  go_wp2_with fail
  refine (mark_any v_im r _ (1) _ R_im_w9.out (by omega) (by omega) (by omega)).mono ?_
  rintro e w10 ⟨rfl, hrw10, hgw10⟩
  have hzw10 : w9.heap.size ≤ w10.heap.size := hgw10.size
  have R_sp_w10 := Lib.hid (R_sp_w9.out.keep (w' := w10) fun g hg => hgw10.block g (R_sp_w9.out.lt g hg).2 fun e => by have h1 := lt_sp.out g hg; have h2 := lt_im.out g e.symm; omega)
  clear R_sp_w9
  have HBw10 : Hid (Below w.heap.size w w10) := Lib.hid (Below.grown HBw9.out hgw10 (by omega) (fun g e => by have h2 := lt_im.out g e; omega))
  have hww10 := HBw10.out.size
  have R_im_w10 := Lib.hid hrw10
  clear hrw10 hgw10 HBw9 R_im_w9
  go_wp2_with fail
  refine (held_any v_im r.length _ (1) _ R_im_w10.out (by omega) (by omega) (by omega)).mono ?_
  rintro e wx1 ⟨rfl, rfl⟩
  go_wp2_with fail
  refine (toIntS_any _ l_l _ (HS_l.out.below HBw10.out (Nat.le_refl _)) b_l).mono ?_
  rintro e w11 ⟨v_t_l, rfl, hrw11, hbw11⟩
  have hzw11 : w10.heap.size ≤ w11.heap.size := hbw11.size
  have R_sp_w11 := Lib.hid (R_sp_w10.out.below hbw11)
  clear R_sp_w10
  have R_im_w11 := Lib.hid (R_im_w10.out.below hbw11)
  clear R_im_w10
  have HBw11 : Hid (Below w.heap.size w w11) := Lib.hid (HBw10.out.trans (hbw11.mono HBw10.out.size))
  have hww11 := HBw11.out.size
  clear hbw11 HBw10
  have R_t_l_w11 := Lib.hid hrw11; clear hrw11
  have lt_t_l : Hid (∀ g, v_t_l.ownBlock = some g → w10.heap.size ≤ g ∧ g < w11.heap.size) := Lib.hid R_t_l_w11.out.lt
  go_wp2_with fail
  refine (K2.out _ v_t_l R_t_l_w11.out.slc).mono ?_
  rintro e w12 ⟨v_im2, rfl, hrw12, hbw12⟩
  have hzw12 : w11.heap.size ≤ w12.heap.size := hbw12.size
  have R_sp_w12 := Lib.hid (R_sp_w11.out.below hbw12)
  clear R_sp_w11
  have R_im_w12 := Lib.hid (R_im_w11.out.below hbw12)
  clear R_im_w11
  have R_t_l_w12 := Lib.hid (R_t_l_w11.out.below hbw12)
  clear R_t_l_w11
  have HBw12 : Hid (Below w.heap.size w w12) := Lib.hid (HBw11.out.trans (hbw12.mono HBw11.out.size))
  have hww12 := HBw12.out.size
  clear hbw12 HBw11
  have R_im2_w12 := Lib.hid hrw12; clear hrw12
  have lt_im2 : Hid (∀ g, v_im2.ownBlock = some g → w11.heap.size ≤ g ∧ g < w12.heap.size) := Lib.hid R_im2_w12.out.lt
  clear R_t_l_w12 lt_t_l
  go_wp2_with fail
  refine (eq_same v_im2 v_sp r _ _ _ R_im2_w12.out R_sp_w12.out (by omega)).mono ?_
  rintro e w13 ⟨rfl, hbw13⟩
  have hzw13 : w12.heap.size ≤ w13.heap.size := hbw13.size
  have R_sp_w13 := Lib.hid (R_sp_w12.out.below hbw13)
  clear R_sp_w12
  have R_im_w13 := Lib.hid (R_im_w12.out.below hbw13)
  clear R_im_w12
  have R_im2_w13 := Lib.hid (R_im2_w12.out.below hbw13)
  clear R_im2_w12
  have HBw13 : Hid (Below w.heap.size w w13) := Lib.hid (HBw12.out.trans (hbw13.mono HBw12.out.size))
  have hww13 := HBw13.out.size
  clear hbw13 HBw12
  go_wp2_with fail
  refine (held_any v_im r.length _ (1) _ R_im_w13.out (by omega) (by omega) (by omega)).mono ?_
  rintro e wx2 ⟨rfl, rfl⟩
  go_wp2
  go_ret
  exact ⟨rfl, HBw13.out⟩
end Go.Proofs.Ytommagdddleoiaa
