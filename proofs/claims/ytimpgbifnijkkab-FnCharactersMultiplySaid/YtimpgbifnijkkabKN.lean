/- A bundle of texts: IA IF IH IL. -/
import Derived.Deep.RegionHeld3
import Derived.Test.YtimpgbifnijkkabKM
import Derived.Test.YtimpgbifnijkkabKJ
import Derived.Test.YtimpgbifnijkkabKA
namespace Go.Proofs.Ytimpgbifnijkkab
open Go.RowKit
set_option maxHeartbeats 1000000 in
/-- impl.field.zeros. -/
theorem zerosE (q : Int) (N : Nat) (w : World) (h : isSz q = true) (hN : N ≤ 1000) :
    Calls Try.prog 124 #[fdE q, .int .i64 N] w fun e w' => ∃ g, e = .returned (.slice (some ⟨g, 0, none⟩) N N) ∧ w.heap.size ≤ g ∧ Blk w' g N ∧ Els w' g q (fun _ => 0) N ∧ Below w.heap.size w w' := by
  have HZ := Lib.hid (fun w => zeroE q w h)
  have HRP := Lib.hid (fun b cp w' (hb : b < w'.heap.size) (he : Els w' b q (fun _ => 0) 1) => repeatE q 0 b N cp w' hb he hN)
  have HONE : Hid (∀ (w1 w2 : World), w2 = w1.alloc (eblk q 0) → w1.heap.size < w2.heap.size ∧ Els w2 w1.heap.size q (fun _ => 0) 1) := Lib.hid fun w1 w2 hw => by
    subst hw
    obtain ⟨s0, s1, s2, s3, s4, s5, s6, _, hl⟩ := seven (heap_alloc_new w1 (eblk q 0))
    refine ⟨hl, fun j hj => ?_⟩
    obtain rfl : j = 0 := by omega
    exact ⟨s0, s1, s2, s3, s4, s5, s6⟩
  clear h
  go_enter Try.func124, Try.ntmps124
  go_wp2_with fail
  refine (HZ.out _).mono ?_
  rintro e w1 ⟨rfl, hb1⟩
  have hz_hb1 := hb1.size; (try simp at hz_hb1)
  have HB1 := Lib.hid hb1; clear hb1
  go_wp2_with fail
  refine (HRP.out _ _ _ (HONE.out w1 _ rfl).1 (HONE.out w1 _ rfl).2).mono ?_
  rintro e w2 ⟨g, rfl, hg, hk, he, hb2⟩
  simp at hg
  have HK := Lib.hid hk; clear hk
  have HE := Lib.hid he; clear he
  have HB2 := Lib.hid hb2; clear hb2
  go_wp2
  go_ret
  have hb1 := HB1.out
  have hb2 := HB2.out
  exact ⟨g, rfl, by omega, HK.out, HE.out, by (repeat' (first | (with_reducible assumption) | (with_reducible exact Below.refl _ _) | (with_reducible refine below_drewN ?_ _) | (with_reducible refine Below.drew ?_) | (with_reducible refine Below.alloc ?_ ?_ _) | (with_reducible refine Below.setCell ?_ ?_ _) | (with_reducible refine Below.trans ?_ (Below.mono (by assumption) ?_)) | (with_reducible exact Nat.le_refl _) | (with_reducible assumption) | omega | (simp; omega) | (simp; done)))⟩
/-- The memory of times. -/
structure TM (w0 wr : World) (q : Int) (v1 v2 : Value) (c : Nat → Int) (N g : Nat) : Prop where
  hp : wr.heap[w0.heap.size]? = some (pblk q v1)
  ho : wr.heap[w0.heap.size + 1]? = some (pblk q v2)
  hr : wr.heap[w0.heap.size + 2]? = some pzblk
  hk : Blk wr g N
  he : Els wr g q c N
  bel : Below w0.heap.size w0 wr
  lt : w0.heap.size + 2 < g
theorem TM.below {w0 wr w' : World} {q : Int} {v1 v2 : Value} {c : Nat → Int} {N g B : Nat} (h : TM w0 wr q v1 v2 c N g) (hb : Below B wr w') (hB : wr.heap.size ≤ B) : TM w0 w' q v1 v2 c N g := by
  have hg := h.hk.lt
  have hl := h.lt
  have hs := h.bel.size
  exact ⟨(hb.block _ (by omega)).trans h.hp, (hb.block _ (by omega)).trans h.ho, (hb.block _ (by omega)).trans h.hr, h.hk.below hb (by omega), h.he.below hb (by omega), h.bel.trans (hb.mono (by omega)), hl⟩
theorem TM.step {w0 wr : World} {q : Int} {v1 v2 : Value} {c : Nat → Int} {N g i : Nat} (h : TM w0 wr q v1 v2 c N g) (hi : i < N) (x : Int) : TM w0 (put7i wr g i q x) q v1 v2 (upd c i x) N g := by
  have hl := h.lt
  obtain ⟨he, hk⟩ := Els.put x h.hk hi (Nat.le_refl _) h.he
  exact ⟨(put7i_other _ _ _ _ _ _ (by omega)).trans h.hp, (put7i_other _ _ _ _ _ _ (by omega)).trans h.ho, (put7i_other _ _ _ _ _ _ (by omega)).trans h.hr, hk, he, put7i_below h.bel _ (by omega) _ _ _, hl⟩
theorem Els.over {w w' : World} {g R K : Nat} {q : Int} {f : Nat → Int} (he : Els w g q f K) (hR : w.heap[R]? = some pzblk) (hq : 2 ≤ q) (hw : ∀ k, k ≠ R → w'.heap[k]? = w.heap[k]?) : Els w' g q f K := by
  by_cases h0 : K = 0
  · subst h0
    exact fun j hj => by omega
  · refine he.same (hw g fun e => ?_)
    subst e
    have h1 := (he 0 (by omega)).1
    rw [Nat.zero_mul, (cells4 hR).1] at h1
    simp at h1
    omega
theorem Els.cellAt {w : World} {g n : Nat} {q : Int} {f : Nat → Int} (h : Els w g q f n) (j b : Nat) (hj : j < n) (hb : b < 7) : w.cell? ⟨g, j * 7 + b, none⟩ = (el7 q (f j))[b]? := by
  obtain ⟨h0, h1, h2, h3, h4, h5, h6⟩ := h j hj
  match b, hb with
  | 0, _ => exact h0
  | 1, _ => exact h1
  | 2, _ => exact h2
  | 3, _ => exact h3
  | 4, _ => exact h4
  | 5, _ => exact h5
  | 6, _ => exact h6
theorem Els.of {w : World} {g n : Nat} {q : Int} {f : Nat → Int} (h : ∀ j b, j < n → b < 7 → w.cell? ⟨g, j * 7 + b, none⟩ = (el7 q (f j))[b]?) : Els w g q f n := fun j hj =>
  ⟨h j 0 hj (by omega), h j 1 hj (by omega), h j 2 hj (by omega), h j 3 hj (by omega), h j 4 hj (by omega), h j 5 hj (by omega), h j 6 hj (by omega)⟩
theorem Els.copied {w w' : World} {g m n : Nat} {q : Int} {f : Nat → Int} {cur : List Value} (hcur : w.heap[g]? = some (.cells cur.toArray 64 (0, 0))) (hl : cur.length = m * 7) (he : Els w g q (fun _ => 0) m) (hn : n ≤ m) (zf : ∀ i, n ≤ i → f i = 0)
    (h : w'.heap[g]? = some (.cells (splice cur 0 (elc q f n)).toArray 64 (0, 0))) : Blk w' g m ∧ Els w' g q f m := by
  have hsz : (splice cur 0 (elc q f n)).length = m * 7 := by rw [length_splice _ _ _ (by rw [elc_len]; omega), hl]
  refine ⟨⟨_, h, by simpa using hsz⟩, Els.of fun j b hj hb => ?_⟩
  rw [cell_of_row w' g _ _ _ (0, 0) h, List.getElem?_toArray]
  unfold splice
  rw [List.take_zero, List.nil_append, elc_len]
  by_cases hjn : j < n
  · rw [List.getElem?_append_left (by rw [elc_len]; omega), elc_get q f n j b hjn hb]
  · rw [List.getElem?_append_right (by rw [elc_len]; omega), elc_len, List.getElem?_drop, zf j (by omega), ← he.cellAt j b hj hb, cell_of_row w g _ _ _ (0, 0) hcur, List.getElem?_toArray]
    congr 1
    omega
/-- The memory of sumOf between two rounds. -/
structure TU (w0 wr : World) (q s : Int) (S : Nat) : Prop where
  hf : wr.heap[w0.heap.size]? = some (ffblk q)
  hr : wr.heap[w0.heap.size + 1]? = some zeroblk
  hs : wr.heap[S]? = some (eblk q s)
  bel : Below w0.heap.size w0 wr
  lt : w0.heap.size + 1 < S
theorem TU.step {w0 wr w5 : World} {q s : Int} {S : Nat} (h : TU w0 wr q s S) (hb : Below wr.heap.size wr w5) (s' : Int) : TU w0 (put7 w5 S q s') q s' S := by
  have hl := h.lt
  have hS : S < wr.heap.size := (Array.getElem?_eq_some_iff.1 h.hs).1
  refine ⟨?_, ?_, ?_, ?_, hl⟩
  · rw [put7_other _ _ _ _ _ (by omega), hb.block _ (by omega)]; exact h.hf
  · rw [put7_other _ _ _ _ _ (by omega), hb.block _ (by omega)]; exact h.hr
  · exact put7_same _ _ _ _ _ _ _ _ _ _ _ (by rw [hb.block _ hS]; exact h.hs)
  · exact put7_below (h.bel.trans (hb.mono (by omega))) _ (by omega) _ _
theorem Els.congr {w : World} {g n : Nat} {q : Int} {f f' : Nat → Int} (h : Els w g q f n) (e : ∀ i, i < n → f i = f' i) : Els w g q f' n := fun j hj => by rw [← e j hj]; exact h j hj
/-- The memory of polyWithTable. -/
structure TPW (w0 wr : World) (m : Nat) (c : Nat → Int) (gT gE : Nat) : Prop where
  hf : wr.heap[w0.heap.size]? = some (ffblk (m : Int))
  hr : wr.heap[w0.heap.size + 1]? = some pzblk
  hk : Blk wr gT m
  he : Els wr gT (m : Int) c m
  hE : Els wr gE (m : Int) (fun j => (j : Int)) m
  bel : Below w0.heap.size w0 wr
  lt : w0.heap.size + 1 < gT
  ne : gT < gE
  lE : gE < wr.heap.size
theorem TPW.below {w0 wr w' : World} {m : Nat} {c : Nat → Int} {gT gE B : Nat} (h : TPW w0 wr m c gT gE) (hb : Below B wr w') (hB : wr.heap.size ≤ B) : TPW w0 w' m c gT gE := by
  have hg := h.hk.lt
  have hl := h.lt
  have hn := h.ne
  have he := h.lE
  have hs := h.bel.size
  have hs' := hb.size
  exact ⟨(hb.block _ (by omega)).trans h.hf, (hb.block _ (by omega)).trans h.hr, h.hk.below hb (by omega), h.he.below hb (by omega), h.hE.below hb (by omega), h.bel.trans (hb.mono (by omega)), hl, hn, by omega⟩
theorem TPW.step {w0 wr : World} {m : Nat} {c : Nat → Int} {gT gE i : Nat} (h : TPW w0 wr m c gT gE) (hi : i < m) (x : Int) : TPW w0 (put7i wr gT i m x) m (upd c i x) gT gE := by
  have hl := h.lt
  have hn := h.ne
  have hle := h.lE
  obtain ⟨he, hk⟩ := Els.put x h.hk hi (Nat.le_refl _) h.he
  exact ⟨(put7i_other _ _ _ _ _ _ (by omega)).trans h.hf, (put7i_other _ _ _ _ _ _ (by omega)).trans h.hr, hk, he, h.hE.same (put7i_other _ _ _ _ _ _ (by omega)), put7i_below h.bel _ (by omega) _ _ _, hl, hn, by simp; omega⟩
/-- The terms after s rounds: those from m - s on. -/
def tmsI (m : Nat) (t : Nat → Int) (s : Nat) : Nat → Int := fun j => if m - s ≤ j then tms m t j else 0
theorem tmsI_step {m : Nat} {t : Nat → Int} {s : Nat} (hs : s + 1 < m) {i : Nat} : i < m → tmsI m t (s + 1) i = upd (tmsI m t s) (m - 1 - s) (subF m 0 (lsum m (psl m t s) m)) i := fun hi => by
  by_cases e : i = m - 1 - s
  · subst e
    rw [upd_at]
    unfold tmsI tms
    rw [if_pos (by omega), if_neg (by omega), show m - 1 - (m - 1 - s) = s by omega]
  · rw [upd_ne _ _ _ _ e]
    unfold tmsI
    by_cases h1 : m - s ≤ i
    · rw [if_pos h1, if_pos (by omega)]
    · rw [if_neg h1, if_neg (by omega)]
theorem tmsI_end {m : Nat} {t : Nat → Int} (hm : 2 ≤ m) {i : Nat} : i < m → upd (tmsI m t (m - 1)) 0 (t 0) i = tms m t i := fun _ => by
  by_cases e : i = 0
  · subst e
    rw [upd_at]
    rfl
  · rw [upd_ne _ _ _ _ e]
    unfold tmsI
    rw [if_pos (by omega)]
theorem tms_el {m : Nat} {t : Nat → Int} (h : isSz (m : Int) = true) (ht : ∀ i, El m (t i)) (i : Nat) : El m (tms m t i) := by
  rw [tms_same h ht]
  exact ipl_el h ht m i (Nat.le_refl _)
end Go.Proofs.Ytimpgbifnijkkab
