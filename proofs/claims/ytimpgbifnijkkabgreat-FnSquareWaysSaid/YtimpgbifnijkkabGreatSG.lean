/- Counts of differences, all of them behind one another, their spread: by contracts. -/
import Derived.Test.YtimpgbifnijkkabGreatSC
import Derived.Test.YtimpgbifnijkkabGreatSD
import Derived.Test.YtimpgbifnijkkabGreatSE
import Derived.Test.YtimpgbifnijkkabGreatSF
import Derived.Test.YtimpgbifnijkkabGreatRM
import Derived.Deep.RegionHeld3
namespace Go.Proofs.YtimpgbifnijkkabGreat
open Go.RowKit
set_option maxHeartbeats 1000000 in
/-- impl.field.elements. -/
theorem elements_full (q : Int) (w : World) (h : isSz q = true) :
    Calls Tryz.prog 29 #[.agg #[.int .i64 q, .int .i64 (pr q), .int .i64 (pl q)]] w fun e w' => ∃ g, e = .returned (.slice (some ⟨g, 0, none⟩) q.toNat q.toNat) ∧ w.heap.size ≤ g ∧ Blk w' g q.toNat ∧ Els w' g q (fun j => (j : Int)) q.toNat ∧ Below w.heap.size w w' := by
  obtain ⟨i0, hi, iz0, iz1, iz2⟩ := info_parts Tryz.infoE
  have hq := isSz_le q h
  have HE := Lib.hid (fun (n : Nat) w (h2 : (n : Int) < q) => elementE q (n : Int) w h (by omega) h2)
  obtain ⟨m, hm⟩ := Int.eq_ofNat_of_zero_le (show 0 ≤ q by omega)
  subst hm
  rw [Int.toNat_natCast]
  clear h
  go_enter Tryz.func29, Tryz.ntmps29
  go_wp2_with (at_make; go_must (refine wpList_make_full _ rfl _ _ 57 rfl w.heap.size 51 i0 (.agg #[.int .i64 0, .int .i64 0, .int .i64 0, .int .i64 0, .int .i64 0, .int .i64 0, .int .i64 0]) 7 Tryz.underlying57 hi iz0 iz1 .i64 .i64 _ _ m rfl rfl rfl rfl ?c3 ?c4 ?c5 ?_))
  case c3 => rw [iz2]; omega
  case c4 => unfold maxLen; omega
  case c5 => simp
  intro w1 hown hgrow
  have hblk : Blk w1 (w.heap.size + 1) m := by
    rcases hown.2 with ⟨hx, _⟩ | ⟨g, cap, cur, hx, _, hh, _, _, hsz, _⟩
    · simp at hx
    · simp at hx
      obtain ⟨rfl, rfl⟩ := hx
      exact ⟨cur, hh, hsz⟩
  have hf : w1.heap[w.heap.size]? = some (.cells #[.int .i64 (m : Int), .int .i64 (pr (m : Int)), .int .i64 (pl (m : Int))] 47) := by
    rw [hgrow.block _ (by simp) (by simp), heap_alloc_new]
  have hb : Below w.heap.size w w1 := ((Below.refl _ _).alloc (Nat.le_refl _) _).grown hgrow (by simp) (fun k hk => by cases hk)
  have HB1 := Lib.hid hblk
  have HF1 := Lib.hid hf
  have HW1 := Lib.hid hb
  clear hown hgrow hblk hf hb
  go_wp2_with fail
  go_loopw [10] (fun vi wr => ∃ i : Nat, i ≤ m ∧ vi = .int .i64 i ∧ wr.heap[w.heap.size]? = some (.cells #[.int .i64 (m : Int), .int .i64 (pr (m : Int)), .int .i64 (pl (m : Int))] 47) ∧ Blk wr (w.heap.size + 1) m ∧ Els wr (w.heap.size + 1) (m : Int) (fun j => (j : Int)) i ∧ Below w.heap.size w wr) (fun vi _ => m - (intOf vi).toNat)
  case atStart => exact ⟨0, Nat.zero_le _, rfl, HF1.out, HB1.out, fun j hj => by omega, HW1.out⟩
  case round =>
    obtain ⟨i, hi, rfl, hf, hk, he, hb⟩ := hrel
    have HF := Lib.hid hf; clear hf
    have HK := Lib.hid hk; clear hk
    have HEl := Lib.hid he; clear he
    have HB := Lib.hid hb; clear hb
    by_cases hlt : i < m
    · have f0 : wr.cell? ⟨w.heap.size, 0, none⟩ = some (.int .i64 (m : Int)) := by rw [cell_of_row wr _ _ _ _ (0, 0) HF.out]; rfl
      have f1 : wr.cell? ⟨w.heap.size, 1, none⟩ = some (.int .i64 (pr (m : Int))) := by rw [cell_of_row wr _ _ _ _ (0, 0) HF.out]; rfl
      have f2 : wr.cell? ⟨w.heap.size, 2, none⟩ = some (.int .i64 (pl (m : Int))) := by rw [cell_of_row wr _ _ _ _ (0, 0) HF.out]; rfl
      go_wp2_with fail
      refine (HE.out i _ (by omega)).mono ?_
      rintro e w2 ⟨rfl, hb2⟩
      have hlt1 := HK.out.lt
      have hk2 : Blk w2 (w.heap.size + 1) m := by obtain ⟨cur, hc, hs⟩ := HK.out; exact ⟨cur, (hb2.block _ hlt1).trans hc, hs⟩
      have he2 : Els w2 (w.heap.size + 1) (m : Int) (fun j => (j : Int)) i := fun j hj => by
        have := HEl.out j hj
        obtain ⟨hc, _⟩ := bcell hb2
        simp only [hc _ _ hlt1]
        exact this
      have hf2 := (hb2.block w.heap.size (by omega)).trans HF.out
      have HB2 := Lib.hid (HB.out.trans (hb2.mono (by omega)))
      clear hb2
      obtain ⟨x0, c0⟩ := hk2.at (i * 7) (by omega)
      obtain ⟨x1, c1⟩ := hk2.at (i * 7 + 1) (by omega)
      obtain ⟨x2, c2⟩ := hk2.at (i * 7 + 2) (by omega)
      obtain ⟨x3, c3⟩ := hk2.at (i * 7 + 3) (by omega)
      obtain ⟨x4, c4⟩ := hk2.at (i * 7 + 4) (by omega)
      obtain ⟨x5, c5⟩ := hk2.at (i * 7 + 5) (by omega)
      obtain ⟨x6, c6⟩ := hk2.at (i * 7 + 6) (by omega)
      have fr := hk2.free
      have HST := Lib.hid (Els.step (f := fun j => (j : Int)) hk2 hlt he2)
      have HF2 := Lib.hid hf2
      clear hk2 he2 hf2
      go_wp2
      go_roundw
      case rel =>
        refine ⟨i + 1, by omega, by go_num, ?_, HST.out.2, HST.out.1, put7i_below HB2.out _ (by omega) _ _ _⟩
        exact (put7i_other _ _ _ _ _ _ (by omega)).trans HF2.out
      case measure => simp [intOf]; omega
    · obtain rfl : m = i := by omega
      go_wp2
      go_ret
      exact ⟨_, rfl, by omega, HK.out, HEl.out, HB.out⟩
theorem fl_cat (f : Nat → Int) (d : Nat) : ∀ k, cat (fun i => fl (fun j => f (i * d + j)) d) k = fl f (k * d) := by
  intro k
  induction k with
  | zero => rw [Nat.zero_mul]; rfl
  | succ k ih =>
    show cat (fun i => fl (fun j => f (i * d + j)) d) k ++ fl (fun j => f (k * d + j)) d = _
    rw [ih, Nat.succ_mul]
    unfold fl
    rw [List.range_add, List.map_append, List.map_map]
    rfl
/-- All counts of all differences are those of each, one behind the other. -/
theorem cat_cfl (m : Nat) (t : Nat → Int) : cat (fun i => fl (oc (dft m t (i + 1)) m) m) (m - 1) = fl (cfl m t) ((m - 1) * m) := by
  rw [← fl_cat]
  congr 1
  funext i
  exact fl_congr fun j hj => (cfl_at t i j hj).symm
end Go.Proofs.YtimpgbifnijkkabGreat
