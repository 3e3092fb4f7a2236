/- Polynomials of a degree looked at by the model: spec.peZero and spec.CountPermuting, by contracts. -/
import Derived.Test.YtnmdcmbcackchabME
import Derived.Test.YtnmdcmbcackchabLD
namespace Go.Proofs.Ytnmdcmbcackchab
open Go.RowKit
theorem cells3 {w : World} {b : Nat} {x0 x1 x2 : Value} (h : w.heap[b]? = some (.cells #[x0, x1, x2] 62 (0, 0))) :
    w.cell? ⟨b, 0, none⟩ = some x0 ∧ w.cell? ⟨b, 1, none⟩ = some x1 ∧ w.cell? ⟨b, 2, none⟩ = some x2 ∧ (∀ o, w.frozen? ⟨b, o, none⟩ = false) ∧ b < w.heap.size := by
  refine ⟨?_, ?_, ?_, fun o => frozen_of_row w b o _ _ h, (Array.getElem?_eq_some_iff.1 h).1⟩ <;> rw [cell_of_row w b _ _ _ (0, 0) h] <;> rfl
/-- The memory of the walk over all polynomials. -/
structure TZ (w0 wr : World) (W G m d cnt J : Nat) (vf : Value) : Prop where
  ww : wr.heap[W]? = some (.cells #[.int .i64 m, .int .i64 cnt, vf] 62 (0, 0))
  ff : Row wr w0.heap.size (.slice (some ⟨G, 0, none⟩) (d + 1) (d + 1)) (fl (pf m d J) (d + 1))
  bel : Below w0.heap.size w0 wr
  lo : w0.heap.size ≤ W
  ne : W ≠ G
theorem TZ.lts {w0 wr : World} {W G m d cnt J : Nat} {vf : Value} (h : TZ w0 wr W G m d cnt J vf) : W < wr.heap.size ∧ G < wr.heap.size ∧ w0.heap.size ≤ G := by
  have h1 := (cells3 h.ww).2.2.2.2
  have h2 := h.ff.lt G rfl
  exact ⟨h1, h2.2, h2.1⟩
theorem TZ.below {w0 wr w' : World} {W G m d cnt J : Nat} {vf : Value} (h : TZ w0 wr W G m d cnt J vf) (hb : Below wr.heap.size wr w') : TZ w0 w' W G m d cnt J vf := by
  have hl := h.lts
  have hz := h.bel.size
  exact ⟨(hb.block _ hl.1).trans h.ww, h.ff.below hb, h.bel.trans (hb.mono hz), h.lo, h.ne⟩
theorem TZ.put {w0 wr : World} {W G m d cnt J J' : Nat} {vf : Value} (h : TZ w0 wr W G m d cnt J vf) (i : Nat) (x : Int) (e : upd (pf m d J) i x = pf m d J') : TZ w0 (wr.setCell ⟨G, i, none⟩ (.int .i64 x)) W G m d cnt J' vf := by
  have hl := h.lts
  have hr := h.ff.store (by rw [fl_len]) i x
  rw [fl_set, e] at hr
  exact ⟨(heap_setCell_other _ _ _ _ h.ne).trans h.ww, hr, h.bel.setCell (p := ⟨G, i, none⟩) hl.2.2 _, h.lo, h.ne⟩
theorem TZ.count {w0 wr : World} {W G m d cnt J : Nat} {vf : Value} (h : TZ w0 wr W G m d cnt J vf) (x : Nat) : TZ w0 (wr.setCell ⟨W, 1, none⟩ (.int .i64 x)) W G m d x J vf := by
  have hl := h.lts
  refine ⟨?_, h.ff.keep fun g hg => ?_, h.bel.setCell (p := ⟨W, 1, none⟩) h.lo _, h.lo, h.ne⟩
  · exact heap_setCell_same wr W 1 _ _ (.int .i64 x) h.ww
  · cases hg
    exact heap_setCell_other _ _ _ _ (Ne.symm h.ne)
theorem TZ.cellF {w0 wr : World} {W G m d cnt J i : Nat} {vf : Value} (h : TZ w0 wr W G m d cnt J vf) (hi : i < d + 1) : wr.cell? ⟨G, i, none⟩ = some (.int .i64 (pf m d J i)) ∧ wr.frozen? ⟨G, i, none⟩ = false := by
  have h1 := Row.cell (l := fl (pf m d J) (d + 1)) (cap := d + 1) (by rw [fl_len]; exact h.ff) i (by rw [fl_len]; omega)
  rw [fl_get _ _ _ hi] at h1
  exact ⟨h1, h.ff.frozen (by rw [fl_len]) i⟩
theorem zcl_le (m d : Nat) : ∀ b j, zcl m d (b + 1) j ≤ m ^ b
  | 0, j => by
    show (if pp m d (j * m) then 1 else 0) ≤ 1
    split <;> omega
  | b + 1, j => by
    show smN (fun c => zcl m d (b + 1) (j * m + c)) m ≤ _
    have : ∀ n, smN (fun c => zcl m d (b + 1) (j * m + c)) n ≤ n * m ^ b := by
      intro n
      induction n with
      | zero => simp [smN]
      | succ n ih =>
        have := zcl_le m d b (j * m + n)
        rw [smN, Nat.succ_mul]
        omega
    have h := this m
    rw [Nat.pow_succ, Nat.mul_comm (m ^ b) m]
    exact h
theorem pf_good {m d j : Nat} (hm : 2 ≤ m) (hd : d < m) : good (m : Int) (fl (pf m d j) (d + 1)) = true := by
  have h1 : (fl (pf m d j) (d + 1)).all (inF (m : Int)) = true := by
    refine List.all_eq_true.2 fun x hx => ?_
    obtain ⟨i, hi, rfl⟩ := List.mem_map.1 hx
    have := pf_el (m := m) d j hm i
    simp [inF, this.1, this.2]
  rw [good_last (by rw [fl_len]; omega) h1 (by rw [fl_len]; omega), fl_len, Nat.add_sub_cancel, fl_get _ _ _ (by omega), pf_top]
  rfl
/-- The values of one of them. -/
theorem pf_values (m d j : Nat) (v : Value) (w : World) (h : isSz (m : Int) = true) (hd : d < m) (hv : Sl w v (fl (pf m d j) (d + 1))) :
    Calls Try.prog 43 #[.int .i64 m, v] w fun e w' => ∃ v', e = .returned v' ∧ Row w' w.heap.size v' (fl (tabF (m : Int) (pf m d j) (d + 1)) m) ∧ Below w.heap.size w w' := by
  have hq := isSz_le (m : Int) h
  have := plValues_any (m : Int) v (fl (pf m d j) (d + 1)) w h hv (pf_good (by omega) hd)
  rw [fl_len, Int.toNat_natCast] at this
  have e : fl (tabF (m : Int) (fun i => (fl (pf m d j) (d + 1)).getD i 0) (d + 1)) m = fl (tabF (m : Int) (pf m d j) (d + 1)) m := fl_congr fun x _ => hor_congr' _ (Nat.le_refl _) fun i _ hi => fl_get _ _ _ hi
  rw [e] at this
  exact this
set_option maxHeartbeats 2000000 in
/-- spec.peZero. -/
theorem peZero_any (m d : Nat) (h : isSz (m : Int) = true) (hd : d < m) : ∀ (b j cnt W G : Nat) (vf : Value) (w0 w : World), b + 1 ≤ d → cnt + m ^ b ≤ 1000000 → TZ w0 w W G m d cnt (j * m ^ (b + 1)) vf →
    Calls Try.prog 53 #[.pointer (some ⟨W, 0, none⟩), .slice (some ⟨G, 0, none⟩) (d + 1) (d + 1), .int .i64 (b + 1 : Nat)] w fun e w' => e = .returned (.tuple #[]) ∧ TZ w0 w' W G m d (cnt + zcl m d (b + 1) j) (j * m ^ (b + 1)) vf
  | 0, j, cnt, W, G, vf, w0, w, hb, hc, ht => by
    have hq := isSz_le (m : Int) h
    have hw := cells3 ht.ww
    obtain ⟨c0, c1, c2, cf, cl⟩ := hw
    have HV := Lib.hid (pf_values m d (j * m ^ (0 + 1)) _ w h hd ht.ff.sl)
    have HT := Lib.hid ht
    have HZ : Hid (zcl m d (0 + 1) j = if pp m d (j * m ^ (0 + 1)) then 1 else 0) := Lib.hid (by
      rw [Nat.zero_add, Nat.pow_one]
      rfl)
    have HPP : Hid (dis (tabF (m : Int) (pf m d (j * m ^ (0 + 1))) (d + 1)) m = pp m d (j * m ^ (0 + 1))) := Lib.hid rfl
    have HD := Lib.hid (fun v w' (hv : Sl w' v (fl (tabF (m : Int) (pf m d (j * m ^ (0 + 1))) (d + 1)) m)) hcap => peDoes_any v (tabF (m : Int) (pf m d (j * m ^ (0 + 1))) (d + 1)) m w' hv hcap (by omega))
    rw [HPP.out] at HD
    clear ht h
    generalize pp m d (j * m ^ (0 + 1)) = r at *
    rw [show (((0 + 1 : Nat) : Int)) = 1 from rfl]
    go_enter Try.func53, Try.ntmps53
    go_wp2_with fail
    refine HV.out.mono ?_
    rintro e w1 ⟨v1, rfl, hr1, hb1⟩
    have hT1 := HT.out.below hb1
    have HD' := Lib.hid (HD.out v1 w1 hr1.sl hr1.capv)
    clear hr1 hb1
    go_wp2_with fail
    refine HD'.out.mono ?_
    rintro e w2 ⟨rfl, rfl⟩
    obtain ⟨a0, a1, a2, af, al⟩ := cells3 hT1.ww
    have HT1 := Lib.hid hT1
    clear hT1
    cases r with
    | true =>
      go_wp2
      refine bodyPost_ret (results_none rfl _ _ _) rfl ?_
      have := HT1.out.count (cnt + 1)
      rw [HZ.out]
      exact ⟨rfl, this⟩
    | false =>
      go_wp2
      refine bodyPost_ret (results_none rfl _ _ _) rfl ?_
      rw [HZ.out]
      exact ⟨rfl, HT1.out⟩
  | b + 1, j, cnt, W, G, vf, w0, w, hb, hc, ht => by
    have hq := isSz_le (m : Int) h
    have IH := Lib.hid (fun c cnt' w' h1 h2 => peZero_any m d h hd b (j * m + c) cnt' W G vf w0 w' (by omega) h1 h2)
    have HPUT := Lib.hid (fun c c' (h1 : c < m) (h2 : c' < m) => pf_put (m := m) (d := d) (b := b + 1) (j := j) (by omega) (by omega) h1 h2)
    have hj : j * m ^ (b + 1 + 1) = (j * m + 0) * m ^ (b + 1) := by rw [Nat.pow_succ, Nat.mul_comm (m ^ (b + 1)) m, ← Nat.mul_assoc, Nat.add_zero (j * m)]
    rw [hj] at ht ⊢
    have HSM : Hid (zcl m d (b + 1 + 1) j = smN (fun c => zcl m d (b + 1) (j * m + c)) m) := Lib.hid rfl
    rw [HSM.out]
    have HSS : Hid (∀ k, smN (fun c => zcl m d (b + 1) (j * m + c)) (k + 1) = smN (fun c => zcl m d (b + 1) (j * m + c)) k + zcl m d (b + 1) (j * m + k)) := Lib.hid fun _ => rfl
    have HS0 : Hid (smN (fun c => zcl m d (b + 1) (j * m + c)) 0 = 0) := Lib.hid rfl
    have HSB : Hid (∀ k, k < m → cnt + smN (fun c => zcl m d (b + 1) (j * m + c)) k + m ^ b ≤ 1000000) := Lib.hid fun k hk => by
      have hB : ∀ n, smN (fun c => zcl m d (b + 1) (j * m + c)) n ≤ n * m ^ b := by
        intro n
        induction n with
        | zero => simp [smN]
        | succ n ih =>
          have := zcl_le m d b (j * m + n)
          rw [smN, Nat.succ_mul]
          omega
      have h1 := hB k
      have h2 : (k + 1) * m ^ b ≤ m * m ^ b := Nat.mul_le_mul_right _ hk
      rw [Nat.pow_succ, Nat.mul_comm] at hc
      rw [Nat.succ_mul] at h2
      omega
    have HT := Lib.hid ht
    obtain ⟨c0, c1, c2, cf, cl⟩ := cells3 ht.ww
    have hbd : b + 1 < d + 1 := by omega
    clear ht hj
    generalize hS : (fun c => zcl m d (b + 1) (j * m + c)) = S at *
    have HSV : Hid (∀ c, zcl m d (b + 1) (j * m + c) = S c) := Lib.hid fun c => by rw [← hS]
    clear hS
    obtain ⟨e1, he1⟩ : ∃ x, x = b + 1 := ⟨_, rfl⟩
    obtain ⟨e2, he2⟩ : ∃ x, x = e1 + 1 := ⟨_, rfl⟩
    have hz1 : (e2 : Int) - 1 = (e1 : Int) := by omega
    have hz2 : ((e2 : Int) == 1) = false := by simp; omega
    rw [← he1] at IH HPUT HT hbd HSS HSV ⊢
    rw [← he2]
    have HE := Lib.hid (And.intro he1 he2)
    clear he1 he2
    go_enter Try.func53, Try.ntmps53
    go_wp2_with fail
    go_loopw [6] (fun vi wr => ∃ c c' : Nat, c ≤ m ∧ c' < m ∧ vi = .int .i64 c ∧ TZ w0 wr W G m d (cnt + smN S c) ((j * m + c') * m ^ e1) vf) (fun vi _ => m - (intOf vi).toNat)
    case atStart => exact ⟨0, 0, by omega, by omega, rfl, by rw [HS0.out]; exact HT.out⟩
    case round =>
      obtain ⟨c, c', hcm, hcm', rfl, ht⟩ := hrel
      obtain ⟨a0, a1, a2, af, al⟩ := cells3 ht.ww
      obtain ⟨f0, f1⟩ := ht.cellF hbd
      have HTr := Lib.hid ht
      clear ht
      by_cases hlt : c < m
      · have HTp := Lib.hid (HTr.out.put e1 (c : Int) (HPUT.out c' c hcm' hlt))
        have IH' := Lib.hid (IH.out c (cnt + smN S c) _ (HSB.out c hlt) HTp.out)
        generalize pf m d ((j * m + c') * m ^ e1) e1 = x at *
        go_wp2_with fail
        refine IH'.out.mono ?_
        rintro e w2 ⟨rfl, ht2⟩
        have HT2 := Lib.hid ht2
        clear ht2
        go_wp2
        go_roundw
        case rel => exact ⟨c + 1, c, by omega, hlt, by go_num, by rw [HSS.out, ← Nat.add_assoc]; exact HT2.out⟩
        case measure => simp [intOf]; omega
      · obtain rfl : m = c := by omega
        have HTp := Lib.hid (HTr.out.put e1 ((0 : Nat) : Int) (HPUT.out c' 0 hcm' (by omega)))
        generalize pf m d ((j * m + c') * m ^ e1) e1 = x at *
        go_wp2
        go_end0
        exact ⟨rfl, HTp.out⟩
end Go.Proofs.Ytnmdcmbcackchab
