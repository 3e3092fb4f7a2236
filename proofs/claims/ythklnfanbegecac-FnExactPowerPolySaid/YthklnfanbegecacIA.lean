/- impl.field.zeros, impl.poly.times, impl.poly.scaled by contracts. -/
import Derived.Test.YthklnfanbegecacHZ
import Derived.Test.YthklnfanbegecacHR
import Derived.Test.YthklnfanbegecacHN
import Derived.Test.YthklnfanbegecacHT
namespace Go.Proofs.Ythklnfanbegecac
open Go.RowKit
set_option maxHeartbeats 1000000 in
/-- impl.field.zeros. -/
theorem zerosE (q : Int) (N : Nat) (w : World) (h : isSz q = true) (hN : N ≤ 1000) :
    Calls Try.prog 52 #[fdE q, .int .i64 N] w fun e w' => ∃ g, e = .returned (.slice (some ⟨g, 0, none⟩) N N) ∧ w.heap.size ≤ g ∧ Blk w' g N ∧ Els w' g q (fun _ => 0) N ∧ Below w.heap.size w w' := by
  have HZ := Lib.hid (fun w => zeroE q w h)
  have HRP := Lib.hid (fun b cp w' (hb : b < w'.heap.size) (he : Els w' b q (fun _ => 0) 1) => repeatE q 0 b N cp w' hb he hN)
  have HONE : Hid (∀ (w1 w2 : World), w2 = w1.alloc (eblk q 0) → w1.heap.size < w2.heap.size ∧ Els w2 w1.heap.size q (fun _ => 0) 1) := Lib.hid fun w1 w2 hw => by
    subst hw
    obtain ⟨s0, s1, s2, s3, s4, s5, s6, _, hl⟩ := seven (heap_alloc_new w1 (eblk q 0))
    refine ⟨hl, fun j hj => ?_⟩
    obtain rfl : j = 0 := by omega
    exact ⟨s0, s1, s2, s3, s4, s5, s6⟩
  clear h
  go_enter Try.func52, Try.ntmps52
  go_wp2_with fail
  refine (HZ.out _).mono ?_
  rintro e w1 ⟨rfl, hb1⟩
  have hz_hb1 := hb1.size; (try simp at hz_hb1)
  have HB1 := Lib.hid hb1; clear hb1
  go_wp2_with fail
  refine (HRP.out _ _ _ (HONE.out w1 _ rfl).1 (HONE.out w1 _ rfl).2).mono ?_
  rintro e w2 ⟨g, rfl, hg, hk, he, hb2⟩
  simp at hg
  have HK := Lib.hid hk; clear hk
  have HE := Lib.hid he; clear he
  have HB2 := Lib.hid hb2; clear hb2
  go_wp2
  go_ret
  have hb1 := HB1.out
  have hb2 := HB2.out
  exact ⟨g, rfl, by omega, HK.out, HE.out, by (repeat' (first | (with_reducible assumption) | (with_reducible exact Below.refl _ _) | (with_reducible refine below_drewN ?_ _) | (with_reducible refine Below.drew ?_) | (with_reducible refine Below.alloc ?_ ?_ _) | (with_reducible refine Below.setCell ?_ ?_ _) | (with_reducible refine Below.trans ?_ (Below.mono (by assumption) ?_)) | (with_reducible exact Nat.le_refl _) | (with_reducible assumption) | omega | (simp; omega) | (simp; done)))⟩
/-- The memory of times. -/
structure TM (w0 wr : World) (q : Int) (v1 v2 : Value) (c : Nat → Int) (N g : Nat) : Prop where
  hp : wr.heap[w0.heap.size]? = some (pblk q v1)
  ho : wr.heap[w0.heap.size + 1]? = some (pblk q v2)
  hr : wr.heap[w0.heap.size + 2]? = some pzblk
  hk : Blk wr g N
  he : Els wr g q c N
  bel : Below w0.heap.size w0 wr
  lt : w0.heap.size + 2 < g
theorem TM.below {w0 wr w' : World} {q : Int} {v1 v2 : Value} {c : Nat → Int} {N g B : Nat} (h : TM w0 wr q v1 v2 c N g) (hb : Below B wr w') (hB : wr.heap.size ≤ B) : TM w0 w' q v1 v2 c N g := by
  have hg := h.hk.lt
  have hl := h.lt
  have hs := h.bel.size
  exact ⟨(hb.block _ (by omega)).trans h.hp, (hb.block _ (by omega)).trans h.ho, (hb.block _ (by omega)).trans h.hr, h.hk.below hb (by omega), h.he.below hb (by omega), h.bel.trans (hb.mono (by omega)), hl⟩
theorem TM.step {w0 wr : World} {q : Int} {v1 v2 : Value} {c : Nat → Int} {N g i : Nat} (h : TM w0 wr q v1 v2 c N g) (hi : i < N) (x : Int) : TM w0 (put7i wr g i q x) q v1 v2 (upd c i x) N g := by
  have hl := h.lt
  obtain ⟨he, hk⟩ := Els.put x h.hk hi (Nat.le_refl _) h.he
  exact ⟨(put7i_other _ _ _ _ _ _ (by omega)).trans h.hp, (put7i_other _ _ _ _ _ _ (by omega)).trans h.ho, (put7i_other _ _ _ _ _ _ (by omega)).trans h.hr, hk, he, put7i_below h.bel _ (by omega) _ _ _, hl⟩
theorem Els.over {w w' : World} {g R K : Nat} {q : Int} {f : Nat → Int} (he : Els w g q f K) (hR : w.heap[R]? = some pzblk) (hq : 2 ≤ q) (hw : ∀ k, k ≠ R → w'.heap[k]? = w.heap[k]?) : Els w' g q f K := by
  by_cases h0 : K = 0
  · subst h0
    exact fun j hj => by omega
  · refine he.same (hw g fun e => ?_)
    subst e
    have h1 := (he 0 (by omega)).1
    rw [Nat.zero_mul, (cells4 hR).1] at h1
    simp at h1
    omega
end Go.Proofs.Ythklnfanbegecac
