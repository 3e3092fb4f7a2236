/- A bundle of texts: IA IF IH IL. -/
import Derived.Deep.RegionHeld3
import Derived.Test.YtapglncgicfjnaaKM
import Derived.Test.YtapglncgicfjnaaKJ
import Derived.Test.YtapglncgicfjnaaKA
namespace Go.Proofs.Ytapglncgicfjnaa
open Go.RowKit
/-- The memory of times. -/
structure TM (w0 wr : World) (q : Int) (v1 v2 : Value) (c : Nat → Int) (N g : Nat) : Prop where
  hp : wr.heap[w0.heap.size]? = some (pblk q v1)
  ho : wr.heap[w0.heap.size + 1]? = some (pblk q v2)
  hr : wr.heap[w0.heap.size + 2]? = some pzblk
  hk : Blk wr g N
  he : Els wr g q c N
  bel : Below w0.heap.size w0 wr
  lt : w0.heap.size + 2 < g
theorem TM.below {w0 wr w' : World} {q : Int} {v1 v2 : Value} {c : Nat → Int} {N g B : Nat} (h : TM w0 wr q v1 v2 c N g) (hb : Below B wr w') (hB : wr.heap.size ≤ B) : TM w0 w' q v1 v2 c N g := by
  have hg := h.hk.lt
  have hl := h.lt
  have hs := h.bel.size
  exact ⟨(hb.block _ (by omega)).trans h.hp, (hb.block _ (by omega)).trans h.ho, (hb.block _ (by omega)).trans h.hr, h.hk.below hb (by omega), h.he.below hb (by omega), h.bel.trans (hb.mono (by omega)), hl⟩
theorem TM.step {w0 wr : World} {q : Int} {v1 v2 : Value} {c : Nat → Int} {N g i : Nat} (h : TM w0 wr q v1 v2 c N g) (hi : i < N) (x : Int) : TM w0 (put7i wr g i q x) q v1 v2 (upd c i x) N g := by
  have hl := h.lt
  obtain ⟨he, hk⟩ := Els.put x h.hk hi (Nat.le_refl _) h.he
  exact ⟨(put7i_other _ _ _ _ _ _ (by omega)).trans h.hp, (put7i_other _ _ _ _ _ _ (by omega)).trans h.ho, (put7i_other _ _ _ _ _ _ (by omega)).trans h.hr, hk, he, put7i_below h.bel _ (by omega) _ _ _, hl⟩
theorem Els.over {w w' : World} {g R K : Nat} {q : Int} {f : Nat → Int} (he : Els w g q f K) (hR : w.heap[R]? = some pzblk) (hq : 2 ≤ q) (hw : ∀ k, k ≠ R → w'.heap[k]? = w.heap[k]?) : Els w' g q f K := by
  by_cases h0 : K = 0
  · subst h0
    exact fun j hj => by omega
  · refine he.same (hw g fun e => ?_)
    subst e
    have h1 := (he 0 (by omega)).1
    rw [Nat.zero_mul, (cells4 hR).1] at h1
    simp at h1
    omega
theorem Els.cellAt {w : World} {g n : Nat} {q : Int} {f : Nat → Int} (h : Els w g q f n) (j b : Nat) (hj : j < n) (hb : b < 7) : w.cell? ⟨g, j * 7 + b, none⟩ = (el7 q (f j))[b]? := by
  obtain ⟨h0, h1, h2, h3, h4, h5, h6⟩ := h j hj
  match b, hb with
  | 0, _ => exact h0
  | 1, _ => exact h1
  | 2, _ => exact h2
  | 3, _ => exact h3
  | 4, _ => exact h4
  | 5, _ => exact h5
  | 6, _ => exact h6
theorem Els.of {w : World} {g n : Nat} {q : Int} {f : Nat → Int} (h : ∀ j b, j < n → b < 7 → w.cell? ⟨g, j * 7 + b, none⟩ = (el7 q (f j))[b]?) : Els w g q f n := fun j hj =>
  ⟨h j 0 hj (by omega), h j 1 hj (by omega), h j 2 hj (by omega), h j 3 hj (by omega), h j 4 hj (by omega), h j 5 hj (by omega), h j 6 hj (by omega)⟩
theorem Els.copied {w w' : World} {g m n : Nat} {q : Int} {f : Nat → Int} {cur : List Value} (hcur : w.heap[g]? = some (.cells cur.toArray 87 (0, 0))) (hl : cur.length = m * 7) (he : Els w g q (fun _ => 0) m) (hn : n ≤ m) (zf : ∀ i, n ≤ i → f i = 0)
    (h : w'.heap[g]? = some (.cells (splice cur 0 (elc q f n)).toArray 87 (0, 0))) : Blk w' g m ∧ Els w' g q f m := by
  have hsz : (splice cur 0 (elc q f n)).length = m * 7 := by rw [length_splice _ _ _ (by rw [elc_len]; omega), hl]
  refine ⟨⟨_, h, by simpa using hsz⟩, Els.of fun j b hj hb => ?_⟩
  rw [cell_of_row w' g _ _ _ (0, 0) h, List.getElem?_toArray]
  unfold splice
  rw [List.take_zero, List.nil_append, elc_len]
  by_cases hjn : j < n
  · rw [List.getElem?_append_left (by rw [elc_len]; omega), elc_get q f n j b hjn hb]
  · rw [List.getElem?_append_right (by rw [elc_len]; omega), elc_len, List.getElem?_drop, zf j (by omega), ← he.cellAt j b hj hb, cell_of_row w g _ _ _ (0, 0) hcur, List.getElem?_toArray]
    congr 1
    omega
/-- The memory of sumOf between two rounds. -/
structure TU (w0 wr : World) (q s : Int) (S : Nat) : Prop where
  hf : wr.heap[w0.heap.size]? = some (ffblk q)
  hr : wr.heap[w0.heap.size + 1]? = some zeroblk
  hs : wr.heap[S]? = some (eblk q s)
  bel : Below w0.heap.size w0 wr
  lt : w0.heap.size + 1 < S
theorem TU.step {w0 wr w5 : World} {q s : Int} {S : Nat} (h : TU w0 wr q s S) (hb : Below wr.heap.size wr w5) (s' : Int) : TU w0 (put7 w5 S q s') q s' S := by
  have hl := h.lt
  have hS : S < wr.heap.size := (Array.getElem?_eq_some_iff.1 h.hs).1
  refine ⟨?_, ?_, ?_, ?_, hl⟩
  · rw [put7_other _ _ _ _ _ (by omega), hb.block _ (by omega)]; exact h.hf
  · rw [put7_other _ _ _ _ _ (by omega), hb.block _ (by omega)]; exact h.hr
  · exact put7_same _ _ _ _ _ _ _ _ _ _ _ (by rw [hb.block _ hS]; exact h.hs)
  · exact put7_below (h.bel.trans (hb.mono (by omega))) _ (by omega) _ _
set_option maxHeartbeats 4000000 in
/-- impl.field.sumOf. -/
theorem sumOfE (q : Int) (v : Value) (f : Nat → Int) (n : Nat) (w : World) (h : isSz q = true) (hv : Se w v q f n) (hf : ∀ i, i < n → El q (f i)) (hn : n ≤ 1000) :
    Calls Try.prog 141 #[fdE q, v] w fun e w' => e = .returned (elE q (lsum q f n)) ∧ Below w.heap.size w w' := by
  have HZ := Lib.hid (fun w => zeroE q w h)
  have HSE : Hid (∀ k, k ≤ n → El q (lsum q f k)) := Lib.hid fun k hk => lsum_el h fun i hi => hf i (by omega)
  have HA := Lib.hid (fun (k : Nat) (hk : k < n) w => plusE q (lsum q f k) (f k) w h (HSE.out k (by omega)).1 (HSE.out k (by omega)).2 (hf k hk).1 (hf k hk).2)
  obtain ⟨g, cap, rfl, hg, he⟩ := hv
  have HEL := Lib.hid (fun wr (hb : Below w.heap.size w wr) => he.below hb hg)
  clear h hf he HSE
  go_enter Try.func141, Try.ntmps141
  go_wp2_with fail
  refine (HZ.out _).mono ?_
  rintro e w1 ⟨rfl, hb1⟩
  have hz1 := hb1.size
  simp at hz1
  have htu : TU w (w1.alloc (eblk q 0)) q (lsum q f 0) w1.heap.size := by
    have hb' : Below (w.heap.size + 2) ((w.alloc (ffblk q)).alloc zeroblk) w1 := hb1.mono (by simp)
    obtain ⟨t0, t1⟩ := two w (ffblk q) zeroblk
    refine ⟨?_, ?_, heap_alloc_new _ _, by (repeat' (first | (with_reducible assumption) | (with_reducible exact Below.refl _ _) | (with_reducible refine below_drewN ?_ _) | (with_reducible refine Below.drew ?_) | (with_reducible refine Below.alloc ?_ ?_ _) | (with_reducible refine Below.setCell ?_ ?_ _) | (with_reducible refine Below.trans ?_ (Below.mono (by assumption) ?_)) | (with_reducible exact Nat.le_refl _) | (with_reducible assumption) | omega | (simp; omega) | (simp; done))), by omega⟩
    · rw [Below.heap_alloc _ _ _ (by omega), hb'.block _ (by omega)]; exact t0
    · rw [Below.heap_alloc _ _ _ (by omega), hb'.block _ (by omega)]; exact t1
  have HTU := Lib.hid htu; clear htu hb1
  go_wp2_with fail
  generalize w1.heap.size = S at *
  go_loopw [12] (fun vi wr => ∃ k : Nat, k ≤ n ∧ vi = .int .i64 k ∧ TU w wr q (lsum q f k) S) (fun vi _ => n - (intOf vi).toNat)
  case atStart => exact ⟨0, Nat.zero_le _, rfl, HTU.out⟩
  case round =>
    obtain ⟨k, hk, rfl, ht⟩ := hrel
    obtain ⟨s0, s1, s2, s3, s4, s5, s6, sf, sl⟩ := seven ht.hs
    obtain ⟨r0, r1, r2, r3, r4, r5, r6, rf, rl⟩ := seven ht.hr
    have hlt0 := ht.lt
    by_cases hlt : k < n
    · clear r0 r1 r2 r3 r4 r5 r6 rf
      have HS : Hid (addF q (lsum q f k) (f k) = lsum q f (k + 1)) := Lib.hid rfl
      obtain ⟨c0, c1, c2, c3, c4, c5, c6⟩ := (HEL.out _ ht.bel) k hlt
      have hgl : g < wr.heap.size := by have := ht.bel.size; omega
      have HA' := Lib.hid (HA.out k hlt)
      have HTT := Lib.hid ht; clear ht
      generalize lsum q f k = y at *
      generalize f k = u at *
      go_wp2_with fail
      refine (HA'.out _).mono ?_
      rintro e w3 ⟨rfl, hb3⟩
      obtain ⟨hc3, hf3⟩ := bcell hb3; have hz3 := hb3.size; (try simp at hz3); have HB3 := Lib.hid hb3; clear hb3
      have l3 : S < w3.heap.size := by omega
      go_wp2
      go_roundw
      case rel =>
        have hb3 := HB3.out
        refine ⟨k + 1, by omega, by go_num, ?_⟩
        rw [← HS.out]
        exact HTT.out.step (w5 := w3) (by (repeat' (first | (with_reducible assumption) | (with_reducible exact Below.refl _ _) | (with_reducible refine below_drewN ?_ _) | (with_reducible refine Below.drew ?_) | (with_reducible refine Below.alloc ?_ ?_ _) | (with_reducible refine Below.setCell ?_ ?_ _) | (with_reducible refine Below.trans ?_ (Below.mono (by assumption) ?_)) | (with_reducible exact Nat.le_refl _) | (with_reducible assumption) | omega | (simp; omega) | (simp; done)))) (addF q y u)
      case measure => (simp [intOf]; try omega)
    · obtain rfl : n = k := by omega
      have hb := ht.bel
      have HTT := Lib.hid ht; clear ht
      go_wp2_with fail
      refine bodyPost_ret (v := elE q (lsum q f n)) (by simp [results, Try.results141, go_sem, r0, r1, r2, r3, r4, r5, r6]) rfl ⟨rfl, ?_⟩
      (repeat' (first | (with_reducible assumption) | (with_reducible exact Below.refl _ _) | (with_reducible refine below_drewN ?_ _) | (with_reducible refine Below.drew ?_) | (with_reducible refine Below.alloc ?_ ?_ _) | (with_reducible refine Below.setCell ?_ ?_ _) | (with_reducible refine Below.trans ?_ (Below.mono (by assumption) ?_)) | (with_reducible exact Nat.le_refl _) | (with_reducible assumption) | omega | (simp; omega) | (simp; done)))
theorem Els.congr {w : World} {g n : Nat} {q : Int} {f f' : Nat → Int} (h : Els w g q f n) (e : ∀ i, i < n → f i = f' i) : Els w g q f' n := fun j hj => by rw [← e j hj]; exact h j hj
/-- The memory of polyWithTable. -/
structure TPW (w0 wr : World) (m : Nat) (c : Nat → Int) (gT gE : Nat) : Prop where
  hf : wr.heap[w0.heap.size]? = some (ffblk (m : Int))
  hr : wr.heap[w0.heap.size + 1]? = some pzblk
  hk : Blk wr gT m
  he : Els wr gT (m : Int) c m
  hE : Els wr gE (m : Int) (fun j => (j : Int)) m
  bel : Below w0.heap.size w0 wr
  lt : w0.heap.size + 1 < gT
  ne : gT < gE
  lE : gE < wr.heap.size
theorem TPW.below {w0 wr w' : World} {m : Nat} {c : Nat → Int} {gT gE B : Nat} (h : TPW w0 wr m c gT gE) (hb : Below B wr w') (hB : wr.heap.size ≤ B) : TPW w0 w' m c gT gE := by
  have hg := h.hk.lt
  have hl := h.lt
  have hn := h.ne
  have he := h.lE
  have hs := h.bel.size
  have hs' := hb.size
  exact ⟨(hb.block _ (by omega)).trans h.hf, (hb.block _ (by omega)).trans h.hr, h.hk.below hb (by omega), h.he.below hb (by omega), h.hE.below hb (by omega), h.bel.trans (hb.mono (by omega)), hl, hn, by omega⟩
theorem TPW.step {w0 wr : World} {m : Nat} {c : Nat → Int} {gT gE i : Nat} (h : TPW w0 wr m c gT gE) (hi : i < m) (x : Int) : TPW w0 (put7i wr gT i m x) m (upd c i x) gT gE := by
  have hl := h.lt
  have hn := h.ne
  have hle := h.lE
  obtain ⟨he, hk⟩ := Els.put x h.hk hi (Nat.le_refl _) h.he
  exact ⟨(put7i_other _ _ _ _ _ _ (by omega)).trans h.hf, (put7i_other _ _ _ _ _ _ (by omega)).trans h.hr, hk, he, h.hE.same (put7i_other _ _ _ _ _ _ (by omega)), put7i_below h.bel _ (by omega) _ _ _, hl, hn, by simp; omega⟩
/-- The terms after s rounds: those from m - s on. -/
def tmsI (m : Nat) (t : Nat → Int) (s : Nat) : Nat → Int := fun j => if m - s ≤ j then tms m t j else 0
theorem tmsI_step {m : Nat} {t : Nat → Int} {s : Nat} (hs : s + 1 < m) {i : Nat} : i < m → tmsI m t (s + 1) i = upd (tmsI m t s) (m - 1 - s) (subF m 0 (lsum m (psl m t s) m)) i := fun hi => by
  by_cases e : i = m - 1 - s
  · subst e
    rw [upd_at]
    unfold tmsI tms
    rw [if_pos (by omega), if_neg (by omega), show m - 1 - (m - 1 - s) = s by omega]
  · rw [upd_ne _ _ _ _ e]
    unfold tmsI
    by_cases h1 : m - s ≤ i
    · rw [if_pos h1, if_pos (by omega)]
    · rw [if_neg h1, if_neg (by omega)]
theorem tmsI_end {m : Nat} {t : Nat → Int} (hm : 2 ≤ m) {i : Nat} : i < m → upd (tmsI m t (m - 1)) 0 (t 0) i = tms m t i := fun _ => by
  by_cases e : i = 0
  · subst e
    rw [upd_at]
    rfl
  · rw [upd_ne _ _ _ _ e]
    unfold tmsI
    rw [if_pos (by omega)]
theorem tms_el {m : Nat} {t : Nat → Int} (h : isSz (m : Int) = true) (ht : ∀ i, El m (t i)) (i : Nat) : El m (tms m t i) := by
  rw [tms_same h ht]
  exact ipl_el h ht m i (Nat.le_refl _)
end Go.Proofs.Ytapglncgicfjnaa
