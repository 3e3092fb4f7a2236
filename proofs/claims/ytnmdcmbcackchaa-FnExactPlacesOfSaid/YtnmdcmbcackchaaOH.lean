/- impl.valueTable.moment, firstMoment, by contracts. -/
import Derived.Test.YtnmdcmbcackchaaOG
import Derived.Test.YtnmdcmbcackchaaLE
namespace Go.Proofs.Ytnmdcmbcackchaa
open Go.RowKit
set_option maxRecDepth 100000 in
set_option maxHeartbeats 4000000 in
/-- impl.valueTable.moment. -/
theorem momentE (m K g cap : Nat) (c t : Nat → Int) (w : World) (h : isSz (m : Int) = true) (hg : g < w.heap.size) (he : Els w g (m : Int) t m) (ht : ∀ i, i < m → El (m : Int) (t i)) (hK : K ≤ 1000) :
    Calls Try.prog 52 #[.agg (VB (m : Int) c (.slice (some ⟨g, 0, none⟩) m cap)), .int .i64 K] w fun e w' => e = .returned (elE (m : Int) (psum m t K)) ∧ Below w.heap.size w w' := by
  have HTW := two w (.cells (VB (m : Int) c (.slice (some ⟨g, 0, none⟩) m cap)) 46) zeroblk
  obtain ⟨x0, xr, x19⟩ := VB_cells HTW.1
  have hbb : Below w.heap.size w ((w.alloc (.cells (VB (m : Int) c (.slice (some ⟨g, 0, none⟩) m cap)) 46)).alloc zeroblk) := by (repeat' (first | (with_reducible assumption) | (with_reducible exact Below.refl _ _) | (with_reducible refine below_drewN ?_ _) | (with_reducible refine Below.drew ?_) | (with_reducible refine Below.alloc ?_ ?_ _) | (with_reducible refine Below.setCell ?_ ?_ _) | (with_reducible refine Below.trans ?_ (Below.mono (by assumption) ?_)) | (with_reducible exact Nat.le_refl _) | (with_reducible assumption) | omega | (simp; omega) | (simp; done)))
  have hA19 : (VB (m : Int) c (.slice (some ⟨g, 0, none⟩) m cap))[19]? = some (.slice (some ⟨g, 0, none⟩) m cap) := rfl
  have HP := Lib.hid (fun w' (hb : Below w.heap.size w w') => powerSumE m K (.slice (some ⟨g, 0, none⟩) m cap) t w' h ⟨g, cap, rfl, by have := hb.size; omega, he.below hb hg⟩ ht hK)
  have hu := Try.underlying40
  have hi : (Try.prog.info? 40).map (·.size) = some [Value.int .i64 (m : Int), .int .i64 (pr m), .int .i64 (pl m)].length := by rw [show [Value.int .i64 (m : Int), .int .i64 (pr m), .int .i64 (pl m)].length = 3 from rfl]; kernel_rfl
  have HBB := Lib.hid hbb
  have HZ := Lib.hid HTW.2
  clear h he ht HTW x0 x19 hbb
  generalize VB (m : Int) c (.slice (some ⟨g, 0, none⟩) m cap) = A at *
  generalize psum m t K = y at *
  go_enter Try.func52, Try.ntmps52
  go_wp2_with (first | refine wpList_load_mid rfl 40 _ rfl w.heap.size 0 rfl _ _ xr hu rfl hi ?_ | fail)
  refine (HP.out _ HBB.out).mono ?_
  rintro e w1 ⟨rfl, hb1⟩
  have hr : w1.heap[w.heap.size + 1]? = some zeroblk := (hb1.block _ (by simp)).trans HZ.out
  have HB1 : Hid (Below w.heap.size w w1) := Lib.hid (by have hbb := HBB.out; exact hbb.trans (hb1.mono (by simp; omega)))
  obtain ⟨s0, s1, s2, s3, s4, s5, s6, sf, sl⟩ := seven hr
  clear hb1 hr
  go_wp2_with fail
  have hb1 := HB1.out
  refine bodyPost_ret (v := elE (m : Int) y) (by simp [results, Try.results52, go_sem, s0, s1, s2, s3, s4, s5, s6]) rfl ⟨rfl, ?_⟩
  (repeat' (first | (with_reducible assumption) | (with_reducible exact Below.refl _ _) | (with_reducible refine below_drewN ?_ _) | (with_reducible refine Below.drew ?_) | (with_reducible refine Below.alloc ?_ ?_ _) | (with_reducible refine Below.setCell ?_ ?_ _) | (with_reducible refine Below.trans ?_ (Below.mono (by assumption) ?_)) | (with_reducible exact Nat.le_refl _) | (with_reducible assumption) | omega | (simp; omega) | (simp; done)))
set_option maxRecDepth 100000 in
set_option maxHeartbeats 4000000 in
/-- impl.valueTable.firstMoment. -/
theorem firstMomentE (m g cap : Nat) (c t : Nat → Int) (w : World) (h : isSz (m : Int) = true) (hg : g < w.heap.size) (he : Els w g (m : Int) t m) (ht : ∀ i, i < m → El (m : Int) (t i)) :
    Calls Try.prog 54 #[.agg (VB (m : Int) c (.slice (some ⟨g, 0, none⟩) m cap))] w fun e w' => e = .returned (.tuple #[.int .i64 (fm (psum m t) 1 (m - 1)).1, .bool (fm (psum m t) 1 (m - 1)).2]) ∧ Below w.heap.size w w' := by
  have hq := isSz_le (m : Int) h
  have HM := Lib.hid (fun K w' (hb : Below w.heap.size w w') (hK : K ≤ 1000) => momentE m K g cap c t w' h (by have := hb.size; omega) (he.below hb hg) ht hK)
  have HZ := Lib.hid (fun K w => isZeroE (m : Int) (psum m t K) w h (psum_el h ht).1 (psum_el h ht).2)
  have HF : Hid (∀ wr, Below (w.heap.size + 1) (w.alloc (.cells (VB (m : Int) c (.slice (some ⟨g, 0, none⟩) m cap)) 46)) wr → wr.heap[w.heap.size]? = some (.cells (VB (m : Int) c (.slice (some ⟨g, 0, none⟩) m cap)) 46 (0, 0)) ∧ wr.cell? ⟨w.heap.size, 0, none⟩ = some (.int .i64 m)) := Lib.hid fun wr hb => by
    have h1 := (hb.block w.heap.size (by omega)).trans (heap_alloc_new w _)
    exact ⟨h1, (VB_cells h1).1⟩
  have hu := Try.underlying46
  have hi : (Try.prog.info? 46).map (·.size) = some (VB (m : Int) c (.slice (some ⟨g, 0, none⟩) m cap)).size := by rw [VB_size]; kernel_rfl
  have HS : Hid (Below (w.heap.size + 1) (w.alloc (.cells (VB (m : Int) c (.slice (some ⟨g, 0, none⟩) m cap)) 46)) (w.alloc (.cells (VB (m : Int) c (.slice (some ⟨g, 0, none⟩) m cap)) 46))) := Lib.hid (Below.refl _ _)
  have HW : Hid (∀ wr, Below (w.heap.size + 1) (w.alloc (.cells (VB (m : Int) c (.slice (some ⟨g, 0, none⟩) m cap)) 46)) wr → Below w.heap.size w wr) := Lib.hid fun wr hb => by (repeat' (first | (with_reducible assumption) | (with_reducible exact Below.refl _ _) | (with_reducible refine below_drewN ?_ _) | (with_reducible refine Below.drew ?_) | (with_reducible refine Below.alloc ?_ ?_ _) | (with_reducible refine Below.setCell ?_ ?_ _) | (with_reducible refine Below.trans ?_ (Below.mono (by assumption) ?_)) | (with_reducible exact Nat.le_refl _) | (with_reducible assumption) | omega | (simp; omega) | (simp; done)))
  have HNO := Lib.hid (fun k n h0 h => fm_no (s := psum m t) (k := k) (n := n) h0 h)
  have HYES := Lib.hid (fun k n h0 h => fm_yes (s := psum m t) (k := k) (n := n) h0 h)
  have HEND : Hid (∀ k, fm (psum m t) k 0 = (0, false)) := Lib.hid fun _ => rfl
  clear h he ht
  generalize psum m t = s at *
  obtain ⟨ans, hans⟩ : ∃ x, fm s 1 (m - 1) = x := ⟨_, rfl⟩
  rw [hans]
  have HANS := Lib.hid hans
  clear hans
  generalize VB (m : Int) c (.slice (some ⟨g, 0, none⟩) m cap) = A at *
  go_enter Try.func54, Try.ntmps54
  go_wp2_with fail
  go_loopw [4] (fun vi wr => ∃ k : Nat, 1 ≤ k ∧ k ≤ m ∧ vi = .int .i64 k ∧ fm s k (m - k) = ans ∧ Below (w.heap.size + 1) (w.alloc (.cells A 46)) wr) (fun vi _ => m - (intOf vi).toNat)
  case atStart => exact ⟨1, by omega, by omega, rfl, HANS.out, HS.out⟩
  case round =>
    obtain ⟨k, hk1, hkm, rfl, hfm, hbw⟩ := hrel
    obtain ⟨hF, hx0⟩ := HF.out wr hbw
    have HBW := Lib.hid hbw
    have HFM := Lib.hid hfm
    clear hbw hfm
    by_cases hlt : k < m
    · have HM' := Lib.hid (HM.out k wr (HW.out _ HBW.out) (by omega))
      have HZ' := Lib.hid (HZ.out k)
      have hno := HNO.out k (m - k) (by omega)
      have hyes := HYES.out k (m - k) (by omega)
      generalize s k = x at *
      by_cases hx : x = 0
      · have HG : Hid (fm s (k + 1) (m - (k + 1)) = ans) := Lib.hid (by rw [← HFM.out, hno hx, show m - (k + 1) = m - k - 1 by omega])
        have hd : decide (x = 0) = true := decide_eq_true hx
        rw [hd] at HZ'
        clear hno hyes HFM hd hx
        go_wp2_with (first | refine wpList_load_row rfl 46 _ rfl w.heap.size rfl 46 A (0, 0) _ hF hu rfl hi ?_ | fail)
        refine HM'.out.mono ?_
        rintro e w1 ⟨rfl, hb1⟩
        have HB1 : Hid (Below (w.heap.size + 1) (w.alloc (.cells A 46)) w1) := Lib.hid (by have hbw := HBW.out; have := hbw.size; simp at this; exact hbw.trans (hb1.mono (by omega)))
        clear hb1 hF hx0
        go_wp2_with fail
        refine (HZ'.out _).mono ?_
        rintro e w2 ⟨rfl, hb2⟩
        have HB2 : Hid (Below (w.heap.size + 1) (w.alloc (.cells A 46)) w2) := Lib.hid (by have hbw := HB1.out; have := hbw.size; simp at this; exact hbw.trans (hb2.mono (by omega)))
        clear hb2
        go_wp2
        go_roundw
        case rel => exact ⟨k + 1, by omega, by omega, by go_num, HG.out, HB2.out⟩
        case measure => simp [intOf]; omega
      · have HG : Hid (ans = ((k : Int), true)) := Lib.hid (by rw [← HFM.out, hyes hx])
        have hd : decide (x = 0) = false := decide_eq_false hx
        rw [hd] at HZ'
        clear hno hyes HFM hd hx
        go_wp2_with (first | refine wpList_load_row rfl 46 _ rfl w.heap.size rfl 46 A (0, 0) _ hF hu rfl hi ?_ | fail)
        refine HM'.out.mono ?_
        rintro e w1 ⟨rfl, hb1⟩
        have HB1 : Hid (Below (w.heap.size + 1) (w.alloc (.cells A 46)) w1) := Lib.hid (by have hbw := HBW.out; have := hbw.size; simp at this; exact hbw.trans (hb1.mono (by omega)))
        clear hb1 hF hx0
        go_wp2_with fail
        refine (HZ'.out _).mono ?_
        rintro e w2 ⟨rfl, hb2⟩
        have HB2 : Hid (Below (w.heap.size + 1) (w.alloc (.cells A 46)) w2) := Lib.hid (by have hbw := HB1.out; have := hbw.size; simp at this; exact hbw.trans (hb2.mono (by omega)))
        clear hb2
        go_wp2
        go_ret2
        exact ⟨by rw [HG.out]; rfl, HW.out _ HB2.out⟩
    · obtain rfl : m = k := by omega
      have HG : Hid (ans = (0, false)) := Lib.hid (by rw [← HFM.out, Nat.sub_self]; exact HEND.out m)
      clear HFM hF
      go_wp2
      go_ret2
      exact ⟨by rw [HG.out]; rfl, HW.out _ HBW.out⟩
end Go.Proofs.Ytnmdcmbcackchaa
