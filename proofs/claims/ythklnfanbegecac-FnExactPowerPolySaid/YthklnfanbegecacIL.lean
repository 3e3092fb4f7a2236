/- impl.field.sumOf, impl.field.polyWithTable by contracts. -/
import Derived.Test.YthklnfanbegecacIH
import Derived.Test.YthklnfanbegecacHU
namespace Go.Proofs.Ythklnfanbegecac
open Go.RowKit
/-- The memory of sumOf between two rounds. -/
structure TU (w0 wr : World) (q s : Int) (S : Nat) : Prop where
  hf : wr.heap[w0.heap.size]? = some (ffblk q)
  hr : wr.heap[w0.heap.size + 1]? = some zeroblk
  hs : wr.heap[S]? = some (eblk q s)
  bel : Below w0.heap.size w0 wr
  lt : w0.heap.size + 1 < S
theorem TU.step {w0 wr w5 : World} {q s : Int} {S : Nat} (h : TU w0 wr q s S) (hb : Below wr.heap.size wr w5) (s' : Int) : TU w0 (put7 w5 S q s') q s' S := by
  have hl := h.lt
  have hS : S < wr.heap.size := (Array.getElem?_eq_some_iff.1 h.hs).1
  refine ⟨?_, ?_, ?_, ?_, hl⟩
  · rw [put7_other _ _ _ _ _ (by omega), hb.block _ (by omega)]; exact h.hf
  · rw [put7_other _ _ _ _ _ (by omega), hb.block _ (by omega)]; exact h.hr
  · exact put7_same _ _ _ _ _ _ _ _ _ _ _ (by rw [hb.block _ hS]; exact h.hs)
  · exact put7_below (h.bel.trans (hb.mono (by omega))) _ (by omega) _ _
set_option maxHeartbeats 4000000 in
/-- impl.field.sumOf. -/
theorem sumOfE (q : Int) (v : Value) (f : Nat → Int) (n : Nat) (w : World) (h : isSz q = true) (hv : Se w v q f n) (hf : ∀ i, i < n → El q (f i)) (hn : n ≤ 1000) :
    Calls Try.prog 54 #[fdE q, v] w fun e w' => e = .returned (elE q (lsum q f n)) ∧ Below w.heap.size w w' := by
  have HZ := Lib.hid (fun w => zeroE q w h)
  have HSE : Hid (∀ k, k ≤ n → El q (lsum q f k)) := Lib.hid fun k hk => lsum_el h fun i hi => hf i (by omega)
  have HA := Lib.hid (fun (k : Nat) (hk : k < n) w => plusE q (lsum q f k) (f k) w h (HSE.out k (by omega)).1 (HSE.out k (by omega)).2 (hf k hk).1 (hf k hk).2)
  obtain ⟨g, cap, rfl, hg, he⟩ := hv
  have HEL := Lib.hid (fun wr (hb : Below w.heap.size w wr) => he.below hb hg)
  clear h hf he HSE
  go_enter Try.func54, Try.ntmps54
  go_wp2_with fail
  refine (HZ.out _).mono ?_
  rintro e w1 ⟨rfl, hb1⟩
  have hz1 := hb1.size
  simp at hz1
  have htu : TU w (w1.alloc (eblk q 0)) q (lsum q f 0) w1.heap.size := by
    have hb' : Below (w.heap.size + 2) ((w.alloc (ffblk q)).alloc zeroblk) w1 := hb1.mono (by simp)
    obtain ⟨t0, t1⟩ := two w (ffblk q) zeroblk
    refine ⟨?_, ?_, heap_alloc_new _ _, by (repeat' (first | (with_reducible assumption) | (with_reducible exact Below.refl _ _) | (with_reducible refine below_drewN ?_ _) | (with_reducible refine Below.drew ?_) | (with_reducible refine Below.alloc ?_ ?_ _) | (with_reducible refine Below.setCell ?_ ?_ _) | (with_reducible refine Below.trans ?_ (Below.mono (by assumption) ?_)) | (with_reducible exact Nat.le_refl _) | (with_reducible assumption) | omega | (simp; omega) | (simp; done))), by omega⟩
    · rw [Below.heap_alloc _ _ _ (by omega), hb'.block _ (by omega)]; exact t0
    · rw [Below.heap_alloc _ _ _ (by omega), hb'.block _ (by omega)]; exact t1
  have HTU := Lib.hid htu; clear htu hb1
  go_wp2_with fail
  generalize w1.heap.size = S at *
  go_loopw [12] (fun vi wr => ∃ k : Nat, k ≤ n ∧ vi = .int .i64 k ∧ TU w wr q (lsum q f k) S) (fun vi _ => n - (intOf vi).toNat)
  case atStart => exact ⟨0, Nat.zero_le _, rfl, HTU.out⟩
  case round =>
    obtain ⟨k, hk, rfl, ht⟩ := hrel
    obtain ⟨s0, s1, s2, s3, s4, s5, s6, sf, sl⟩ := seven ht.hs
    obtain ⟨r0, r1, r2, r3, r4, r5, r6, rf, rl⟩ := seven ht.hr
    have hlt0 := ht.lt
    by_cases hlt : k < n
    · clear r0 r1 r2 r3 r4 r5 r6 rf
      have HS : Hid (addF q (lsum q f k) (f k) = lsum q f (k + 1)) := Lib.hid rfl
      obtain ⟨c0, c1, c2, c3, c4, c5, c6⟩ := (HEL.out _ ht.bel) k hlt
      have hgl : g < wr.heap.size := by have := ht.bel.size; omega
      have HA' := Lib.hid (HA.out k hlt)
      have HTT := Lib.hid ht; clear ht
      generalize lsum q f k = y at *
      generalize f k = u at *
      go_wp2_with fail
      refine (HA'.out _).mono ?_
      rintro e w3 ⟨rfl, hb3⟩
      obtain ⟨hc3, hf3⟩ := bcell hb3; have hz3 := hb3.size; (try simp at hz3); have HB3 := Lib.hid hb3; clear hb3
      have l3 : S < w3.heap.size := by omega
      go_wp2
      go_roundw
      case rel =>
        have hb3 := HB3.out
        refine ⟨k + 1, by omega, by go_num, ?_⟩
        rw [← HS.out]
        exact HTT.out.step (w5 := w3) (by (repeat' (first | (with_reducible assumption) | (with_reducible exact Below.refl _ _) | (with_reducible refine below_drewN ?_ _) | (with_reducible refine Below.drew ?_) | (with_reducible refine Below.alloc ?_ ?_ _) | (with_reducible refine Below.setCell ?_ ?_ _) | (with_reducible refine Below.trans ?_ (Below.mono (by assumption) ?_)) | (with_reducible exact Nat.le_refl _) | (with_reducible assumption) | omega | (simp; omega) | (simp; done)))) (addF q y u)
      case measure => (simp [intOf]; try omega)
    · obtain rfl : n = k := by omega
      have hb := ht.bel
      have HTT := Lib.hid ht; clear ht
      go_wp2_with fail
      refine bodyPost_ret (v := elE q (lsum q f n)) (by simp [results, Try.results54, go_sem, r0, r1, r2, r3, r4, r5, r6]) rfl ⟨rfl, ?_⟩
      (repeat' (first | (with_reducible assumption) | (with_reducible exact Below.refl _ _) | (with_reducible refine below_drewN ?_ _) | (with_reducible refine Below.drew ?_) | (with_reducible refine Below.alloc ?_ ?_ _) | (with_reducible refine Below.setCell ?_ ?_ _) | (with_reducible refine Below.trans ?_ (Below.mono (by assumption) ?_)) | (with_reducible exact Nat.le_refl _) | (with_reducible assumption) | omega | (simp; omega) | (simp; done)))
theorem Els.congr {w : World} {g n : Nat} {q : Int} {f f' : Nat → Int} (h : Els w g q f n) (e : ∀ i, i < n → f i = f' i) : Els w g q f' n := fun j hj => by rw [← e j hj]; exact h j hj
/-- The memory of polyWithTable. -/
structure TPW (w0 wr : World) (m : Nat) (c : Nat → Int) (gT gE : Nat) : Prop where
  hf : wr.heap[w0.heap.size]? = some (ffblk (m : Int))
  hr : wr.heap[w0.heap.size + 1]? = some pzblk
  hk : Blk wr gT m
  he : Els wr gT (m : Int) c m
  hE : Els wr gE (m : Int) (fun j => (j : Int)) m
  bel : Below w0.heap.size w0 wr
  lt : w0.heap.size + 1 < gT
  ne : gT < gE
  lE : gE < wr.heap.size
theorem TPW.below {w0 wr w' : World} {m : Nat} {c : Nat → Int} {gT gE B : Nat} (h : TPW w0 wr m c gT gE) (hb : Below B wr w') (hB : wr.heap.size ≤ B) : TPW w0 w' m c gT gE := by
  have hg := h.hk.lt
  have hl := h.lt
  have hn := h.ne
  have he := h.lE
  have hs := h.bel.size
  have hs' := hb.size
  exact ⟨(hb.block _ (by omega)).trans h.hf, (hb.block _ (by omega)).trans h.hr, h.hk.below hb (by omega), h.he.below hb (by omega), h.hE.below hb (by omega), h.bel.trans (hb.mono (by omega)), hl, hn, by omega⟩
theorem TPW.step {w0 wr : World} {m : Nat} {c : Nat → Int} {gT gE i : Nat} (h : TPW w0 wr m c gT gE) (hi : i < m) (x : Int) : TPW w0 (put7i wr gT i m x) m (upd c i x) gT gE := by
  have hl := h.lt
  have hn := h.ne
  have hle := h.lE
  obtain ⟨he, hk⟩ := Els.put x h.hk hi (Nat.le_refl _) h.he
  exact ⟨(put7i_other _ _ _ _ _ _ (by omega)).trans h.hf, (put7i_other _ _ _ _ _ _ (by omega)).trans h.hr, hk, he, h.hE.same (put7i_other _ _ _ _ _ _ (by omega)), put7i_below h.bel _ (by omega) _ _ _, hl, hn, by simp; omega⟩
/-- The terms after s rounds: those from m - s on. -/
def tmsI (m : Nat) (t : Nat → Int) (s : Nat) : Nat → Int := fun j => if m - s ≤ j then tms m t j else 0
theorem tmsI_step {m : Nat} {t : Nat → Int} {s : Nat} (hs : s + 1 < m) {i : Nat} : i < m → tmsI m t (s + 1) i = upd (tmsI m t s) (m - 1 - s) (subF m 0 (lsum m (psl m t s) m)) i := fun hi => by
  by_cases e : i = m - 1 - s
  · subst e
    rw [upd_at]
    unfold tmsI tms
    rw [if_pos (by omega), if_neg (by omega), show m - 1 - (m - 1 - s) = s by omega]
  · rw [upd_ne _ _ _ _ e]
    unfold tmsI
    by_cases h1 : m - s ≤ i
    · rw [if_pos h1, if_pos (by omega)]
    · rw [if_neg h1, if_neg (by omega)]
theorem tmsI_end {m : Nat} {t : Nat → Int} (hm : 2 ≤ m) {i : Nat} : i < m → upd (tmsI m t (m - 1)) 0 (t 0) i = tms m t i := fun _ => by
  by_cases e : i = 0
  · subst e
    rw [upd_at]
    rfl
  · rw [upd_ne _ _ _ _ e]
    unfold tmsI
    rw [if_pos (by omega)]
theorem tms_el {m : Nat} {t : Nat → Int} (h : isSz (m : Int) = true) (ht : ∀ i, El m (t i)) (i : Nat) : El m (tms m t i) := by
  rw [tms_same h ht]
  exact ipl_el h ht m i (Nat.le_refl _)
set_option maxRecDepth 100000 in
set_option maxHeartbeats 4000000 in
/-- impl.field.polyWithTable. -/
theorem polyWithTableE (m : Nat) (v : Value) (t : Nat → Int) (w : World) (h : isSz (m : Int) = true) (hv : Se w v (m : Int) t m) (ht : ∀ i, El (m : Int) (t i)) :
    Calls Try.prog 32 #[fdE (m : Int), v] w fun e w' => ∃ g' cap, e = .returned (polyE (m : Int) (.slice (some ⟨g', 0, none⟩) (redn m (tms m t) m) cap)) ∧ g' < w'.heap.size ∧ Els w' g' (m : Int) (redR m (tms m t) m) (redn m (tms m t) m) ∧ Below w.heap.size w w' := by
  have hq := isSz_le (m : Int) h
  have HZ := Lib.hid (fun w => zerosE (m : Int) m w h (by omega))
  have HE := Lib.hid (fun w => elements_any (m : Int) w h)
  rw [Int.toNat_natCast] at HE
  have HPS : Hid (∀ s i, i < m → El (m : Int) (psl m t s i)) := Lib.hid fun s i hi => psl_el h ht s i hi
  have HS := Lib.hid (fun (s : Nat) v' w' (hs : Se w' v' (m : Int) (psl m t s) m) => sumOfE (m : Int) v' (psl m t s) m w' h hs (HPS.out s) (by omega))
  have HLS : Hid (∀ s, El (m : Int) (lsum m (psl m t s) m)) := Lib.hid fun s => lsum_el h (HPS.out s)
  have HN := Lib.hid (fun (s : Nat) w => negE (m : Int) (lsum m (psl m t s) m) w h (HLS.out s).1 (HLS.out s).2)
  have HZP := Lib.hid (fun (s : Nat) v1 v2 w' (h1 : Se w' v1 (m : Int) (psl m t s) m) (h2 : Se w' v2 (m : Int) (fun j => (j : Int)) m) => zipped_times (m : Int) v1 v2 (psl m t s) (fun j => (j : Int)) (psl m t (s + 1)) m w' h1 h2 (by omega) (fun i hi w'' _ => timesE (m : Int) (psl m t s i) (i : Int) w'' h (HPS.out s i hi).1 (HPS.out s i hi).2 (by omega) (by omega)))
  have HRD := Lib.hid (fun v' w' (hs : Se w' v' (m : Int) (tms m t) m) => reducedE m v' (tms m t) m w' h hs (tms_el h ht) (by omega))
  have HSTEP : Hid (∀ s, s + 1 < m → ∀ i, i < m → upd (tmsI m t s) (m - 1 - s) (subF m 0 (lsum m (psl m t s) m)) i = tmsI m t (s + 1) i) := Lib.hid fun s hs i hi => (tmsI_step hs hi).symm
  have HEND : Hid (∀ i, i < m → upd (tmsI m t (m - 1)) 0 (t 0) i = tms m t i) := Lib.hid fun i hi => tmsI_end (by omega) hi
  have HBEG : Hid (∀ i, i < m → (fun _ => (0 : Int)) i = tmsI m t 0 i) := Lib.hid fun i hi => by unfold tmsI; rw [if_neg (by omega)]
  have HP0 : Hid (psl m t 0 = t) := Lib.hid rfl
  obtain ⟨g0, cap0, rfl, hg0, he0⟩ := hv
  have HE0 := Lib.hid (fun wr (hb : Below w.heap.size w wr) => he0.below hb hg0)
  clear h ht he0 HLS
  generalize psl m t = Q at *
  generalize redn m (tms m t) m = K at *
  generalize redR m (tms m t) m = R at *
  generalize tmsI m t = T at *
  go_enter Try.func32, Try.ntmps32
  go_wp2_with fail
  refine (HZ.out _).mono ?_
  rintro e w1 ⟨gT, rfl, hgT, hk1, hz1, hb1⟩
  simp at hgT
  have hgl1 := hk1.lt
  have HK1 := Lib.hid hk1; clear hk1
  have HZ1 := Lib.hid (hz1.congr HBEG.out); clear hz1
  obtain ⟨hc1, hf1⟩ := bcell hb1; have hz1 := hb1.size; (try simp at hz1); have HB1 := Lib.hid hb1; clear hb1
  have l1 : w.heap.size < w1.heap.size := by omega
  go_wp2_with fail
  refine (HE.out _).mono ?_
  rintro e w2 ⟨gE, capE, rfl, hgE, hkE, hE2, hb2⟩
  have htp : TPW w w2 m (T 0) gT gE := by
    have hb1 := HB1.out
    have hlE := hkE.lt
    have hb' : Below (w.heap.size + 2) ((w.alloc (ffblk (m : Int))).alloc pzblk) w2 := by (repeat' (first | (with_reducible assumption) | (with_reducible exact Below.refl _ _) | (with_reducible refine below_drewN ?_ _) | (with_reducible refine Below.drew ?_) | (with_reducible refine Below.alloc ?_ ?_ _) | (with_reducible refine Below.setCell ?_ ?_ _) | (with_reducible refine Below.trans ?_ (Below.mono (by assumption) ?_)) | (with_reducible exact Nat.le_refl _) | (with_reducible assumption) | omega | (simp; omega) | (simp; done)))
    obtain ⟨t0, t1⟩ := two w (ffblk (m : Int)) pzblk
    exact ⟨(hb'.block _ (by omega)).trans t0, (hb'.block _ (by omega)).trans t1, HK1.out.below hb2 hgl1, HZ1.out.below hb2 hgl1, hE2, by (repeat' (first | (with_reducible assumption) | (with_reducible exact Below.refl _ _) | (with_reducible refine below_drewN ?_ _) | (with_reducible refine Below.drew ?_) | (with_reducible refine Below.alloc ?_ ?_ _) | (with_reducible refine Below.setCell ?_ ?_ _) | (with_reducible refine Below.trans ?_ (Below.mono (by assumption) ?_)) | (with_reducible exact Nat.le_refl _) | (with_reducible assumption) | omega | (simp; omega) | (simp; done))), by omega, by omega, hlE⟩
  have HTP := Lib.hid htp
  clear htp hkE hE2 hgE hc1 hf1 l1
  have hb12 := HTP.out.bel
  have HP7 : Hid (Els w2 g0 (m : Int) (Q 0) m) := Lib.hid (by rw [HP0.out]; exact HE0.out _ hb12)
  have hg02 : g0 < w2.heap.size := by have := hb12.size; omega
  have hg0T : g0 < gT := by have := HTP.out.lt; omega
  clear hb2 hb12
  obtain ⟨f0, f1, f2, ff, fl0⟩ := cells3' HTP.out.hf
  go_wp2_with fail
  clear f0 f1 f2 ff fl0
  go_loopw [7, 8] (fun vp vj wr => ∃ s : Nat, s < m ∧ vj = .int .i64 ((m : Int) - 1 - (s : Int)) ∧ TPW w wr m (T s) gT gE ∧ ∃ g7 cap7, vp = .slice (some ⟨g7, 0, none⟩) m cap7 ∧ g7 < wr.heap.size ∧ g7 ≠ gT ∧ Els wr g7 (m : Int) (Q s) m) (fun _ vj _ => (intOf vj).toNat)
  case atStart => exact ⟨0, by omega, by simp, HTP.out, g0, cap0, rfl, hg02, by omega, HP7.out⟩
  case round =>
    obtain ⟨s, hsm, rfl, htp, g7, cap7, rfl, hg7, hne7, he7⟩ := hrel
    obtain ⟨f0, f1, f2, ff, fl0⟩ := cells3' htp.hf
    have hgl := htp.hk.lt
    have hlt0 := htp.lt
    by_cases hlt : s + 1 < m
    · have hz : (m : Int) - 1 - (s : Int) = ((m - 1 - s : Nat) : Int) := by omega
      have hpos : (0 : Int) < ((m - 1 - s : Nat) : Int) := by omega
      have HS' := Lib.hid (HS.out s)
      have HN' := Lib.hid (HN.out s)
      have HZP' := Lib.hid (HZP.out s)
      have HST := Lib.hid (HSTEP.out s hlt)
      have him : m - 1 - s < m := by omega
      have fr := htp.hk.free
      have HTPr := Lib.hid htp; clear htp
      have HE7 := Lib.hid he7; clear he7
      rw [hz]
      generalize hi : m - 1 - s = i at *
      have HI := Lib.hid hi; clear hi hz
      generalize lsum m (Q s) m = y at *
      go_wp2_with fail
      refine (HS'.out _ _ ⟨g7, cap7, rfl, hg7, HE7.out⟩).mono ?_
      rintro e w3 ⟨rfl, hb3⟩
      have HTP3 := Lib.hid (HTPr.out.below hb3 (Nat.le_refl _))
      have HE73 := Lib.hid (HE7.out.below hb3 hg7)
      have hz3 := hb3.size
      clear hb3
      go_wp2_with fail
      refine (HN'.out _).mono ?_
      rintro e w4 ⟨rfl, hb4⟩
      have HTP4 := Lib.hid (HTP3.out.below hb4 (Nat.le_refl _))
      have HE74 := Lib.hid (HE73.out.below hb4 (by omega))
      have hz4 := hb4.size
      have hgT4 := HTP4.out.hk.lt
      clear hb4
      obtain ⟨x0, c0⟩ := HTP4.out.hk.at (i * 7) (by omega)
      obtain ⟨x1, c1⟩ := HTP4.out.hk.at (i * 7 + 1) (by omega)
      obtain ⟨x2, c2⟩ := HTP4.out.hk.at (i * 7 + 2) (by omega)
      obtain ⟨x3, c3⟩ := HTP4.out.hk.at (i * 7 + 3) (by omega)
      obtain ⟨x4, c4⟩ := HTP4.out.hk.at (i * 7 + 4) (by omega)
      obtain ⟨x5, c5⟩ := HTP4.out.hk.at (i * 7 + 5) (by omega)
      obtain ⟨x6, c6⟩ := HTP4.out.hk.at (i * 7 + 6) (by omega)
      have fr4 := HTP4.out.hk.free
      have HTP5 := Lib.hid (HTP4.out.step him (subF m 0 y))
      have HE75 : Hid (Els (put7i w4 gT i m (subF m 0 y)) g7 (m : Int) (Q s) m) := Lib.hid (HE74.out.same (put7i_other _ _ _ _ _ _ hne7))
      have hg75 : g7 < (put7i w4 gT i m (subF m 0 y)).heap.size := by simp; omega
      have HSE5 : Hid (Se (put7i w4 gT i m (subF m 0 y)) (.slice (some ⟨g7, 0, none⟩) m cap7) (m : Int) (Q s) m) := Lib.hid ⟨g7, cap7, rfl, hg75, HE75.out⟩
      have HSEE : Hid (Se (put7i w4 gT i m (subF m 0 y)) (.slice (some ⟨gE, 0, none⟩) m capE) (m : Int) (fun j => (j : Int)) m) := Lib.hid ⟨gE, capE, rfl, HTP5.out.lE, HTP5.out.hE⟩
      clear hg75
      go_wp2_with fail
      refine (HZP'.out _ _ _ HSE5.out HSEE.out).mono ?_
      rintro e w6 ⟨g8, rfl, hg8, hk8, he8, hb6⟩
      have hl8 := hk8.lt
      have HTP6 := Lib.hid (HTP5.out.below hb6 (Nat.le_refl _))
      have HE8 := Lib.hid he8
      have hne8 : g8 ≠ gT := by have := HTP5.out.hk.lt; omega
      clear he8 hk8 hb6 hg8
      go_wp2
      go_roundw
      case rel =>
        have hI := HI.out
        refine ⟨s + 1, hlt, by rw [← hI]; exact congrArg (Value.int .i64) (by omega), ?_, g8, _, rfl, hl8, hne8, HE8.out⟩
        have h6 := HTP6.out
        exact { h6 with he := h6.he.congr HST.out }
      case measure => (simp [intOf]; try omega)
    · obtain rfl : s = m - 1 := by omega
      have hz : (m : Int) - 1 - ((m - 1 : Nat) : Int) = 0 := by omega
      rw [hz]
      obtain ⟨v0, v1, v2, v3, v4, v5, v6⟩ := (HE0.out _ htp.bel) 0 (by omega)
      obtain ⟨x0, c0⟩ := htp.hk.at 0 (by omega)
      obtain ⟨x1, c1⟩ := htp.hk.at 1 (by omega)
      obtain ⟨x2, c2⟩ := htp.hk.at 2 (by omega)
      obtain ⟨x3, c3⟩ := htp.hk.at 3 (by omega)
      obtain ⟨x4, c4⟩ := htp.hk.at 4 (by omega)
      obtain ⟨x5, c5⟩ := htp.hk.at 5 (by omega)
      obtain ⟨x6, c6⟩ := htp.hk.at 6 (by omega)
      have fr := htp.hk.free
      have hg0l : g0 < wr.heap.size := by have := htp.bel.size; omega
      have h5 := htp.step (show 0 < m by omega) (t 0)
      have HTP5 : Hid (TPW w (put7i wr gT 0 m (t 0)) m (tms m t) gT gE) := Lib.hid { h5 with he := h5.he.congr HEND.out }
      have HSE : Hid (Se (put7i wr gT 0 m (t 0)) (.slice (some ⟨gT, 0, none⟩) m m) (m : Int) (tms m t) m) := Lib.hid ⟨gT, m, rfl, HTP5.out.hk.lt, HTP5.out.he⟩
      simp only [Nat.zero_mul, Nat.zero_add] at v0 v1 v2 v3 v4 v5 v6
      obtain ⟨ff0, ff1, ff2, fff, ffl⟩ := cells3' HTP5.out.hf
      clear h5 htp he7
      generalize t 0 = u at *
      go_wp2_with fail
      refine (HRD.out _ _ HSE.out).mono ?_
      rintro e w6 ⟨g8, cap8, rfl, hg8, he8, hb6⟩
      have ht6 := HTP5.out.below hb6 (Nat.le_refl _)
      have HT6 := Lib.hid ht6; clear ht6
      have HE8 := Lib.hid he8; clear he8 hb6
      obtain ⟨r0, r1, r2, r3, rf, rl0⟩ := cells4 HT6.out.hr
      go_wp2_with fail
      refine bodyPost_ret (v := polyE (m : Int) (.slice (some ⟨g8, 0, none⟩) K cap8)) (by simp [results, Try.results32, go_sem, r0, r1, r2, r3]) rfl ⟨g8, cap8, rfl, by simp; omega, ?_, ?_⟩
      · exact HE8.out.over HT6.out.hr (by omega) (fun k hk => put4_other _ _ _ _ _ hk)
      · have hb0 := HT6.out.bel
        (repeat' (first | (with_reducible assumption) | (with_reducible exact Below.refl _ _) | (with_reducible refine below_drewN ?_ _) | (with_reducible refine Below.drew ?_) | (with_reducible refine Below.alloc ?_ ?_ _) | (with_reducible refine Below.setCell ?_ ?_ _) | (with_reducible refine Below.trans ?_ (Below.mono (by assumption) ?_)) | (with_reducible exact Nat.le_refl _) | (with_reducible assumption) | omega | (simp; omega) | (simp; done)))
end Go.Proofs.Ythklnfanbegecac
