/- impl.ConjugatesOf and spec.ConjugatesOf by contracts; the walk of their law. -/
import Derived.Test.YtapglncgicfjnaaFB
import Derived.Test.YtapglncgicfjnaaKE
import Derived.Test.YtapglncgicfjnaaKG
import Derived.Test.YtapglncgicfjnaaKC
namespace Go.Proofs.Ytapglncgicfjnaa
open Go.RowKit
/-- How many different ones there are. -/
def cjn (q a : Int) : Nat := ((List.range (plN q)).find? fun i => i != 0 && fro q a i == a).getD (plN q)
/-- The model's way: those that are not there yet. -/
def ddTo (q a : Int) : Nat → List Int
  | 0 => []
  | n + 1 => if (ddTo q a n).contains (fro q a n) then ddTo q a n else ddTo q a n ++ [fro q a n]
theorem ddTo_len (q a : Int) (n : Nat) : (ddTo q a n).length ≤ n := by
  induction n with
  | zero => exact Nat.le_refl _
  | succ n ih =>
    simp only [ddTo]
    split
    · omega
    · rw [List.length_append]
      simp
      omega
set_option maxRecDepth 100000 in
theorem dd_model (q a : Int) (h : isSz q = true) (a0 : 0 ≤ a) (a1 : a < q) : ddTo q a (plN q) = frol q a (cjn q a) ∧ 1 ≤ cjn q a ∧ cjn q a ≤ plN q ∧ (cjn q a < plN q → fro q a (cjn q a) = a) ∧ (List.range (plN q)).all (fun i => i == 0 || decide (cjn q a ≤ i) || fro q a i != a) = true :=
  of_decide_eq_true (of_chk1 (f := fun q a => decide (ddTo q a (plN q) = frol q a (cjn q a) ∧ 1 ≤ cjn q a ∧ cjn q a ≤ plN q ∧ (cjn q a < plN q → fro q a (cjn q a) = a) ∧ (List.range (plN q)).all (fun i => i == 0 || decide (cjn q a ≤ i) || fro q a i != a) = true)) (by decide +kernel) q a h a0 a1)
theorem dd_ne (q a : Int) (h : isSz q = true) (a0 : 0 ≤ a) (a1 : a < q) (i : Nat) (h0 : 0 < i) (h1 : i < cjn q a) : fro q a i ≠ a := by
  obtain ⟨_, _, h2, _, h3⟩ := dd_model q a h a0 a1
  have := List.all_eq_true.1 h3 i (List.mem_range.2 (by omega))
  simp only [Bool.or_eq_true, beq_iff_eq, decide_eq_true_eq, bne_iff_ne] at this
  rcases this with (h4 | h4) | h4
  · omega
  · omega
  · exact h4
/-- spec.l1Has on any slice that reads as l. -/
theorem has_sl (v : Value) (l : List Int) (n : Int) (w : World) (h : Sl w v l) (hl : l.length ≤ 1048576) :
    Calls Try.prog 109 #[v, .int .i64 n] w fun e w' => e = .returned (.bool (l.contains n)) ∧ w = w' := by
  by_cases h0 : 0 < l.length
  · obtain ⟨b, off, cap, rfl, hb, hc⟩ := h.open rfl h0
    exact has_any b off l.length cap l n w rfl (by omega) hc
  · obtain rfl : l = [] := List.length_eq_zero_iff.1 (by omega)
    obtain ⟨a, cap, rfl⟩ := h.empty
    exact has_nil a cap n w

set_option maxHeartbeats 1000000 in
/-- spec.ConjugatesOf. -/
theorem spec_ConjugatesOf_yes (q a : Int) (w : World) (ha : inE q a = true) :
    Calls Try.prog 52 #[.int .i64 q, .int .i64 a] w fun e w' => ∃ v, e = .returned (.tuple #[v, .bool true]) ∧ Row w' w.heap.size v (frol q a (cjn q a)) ∧ Below w.heap.size w w' := by
  obtain ⟨i0, hi, iz0, iz1, iz2⟩ := info_parts Try.infoI
  obtain ⟨h, h0, h1⟩ := inE_yes ha
  have hk := plN_bd q h
  have HM := Lib.hid (dd_model q a h h0 h1).1
  have HR := Lib.hid (fun w => fdRound_any q a w h h0 h1)
  clear h
  generalize plN q = k at *
  obtain ⟨hk1, hk4⟩ := hk
  go_enter Try.func52, Try.ntmps52
  go_wp2_with fail
  refine (fdIn_any _ _ _).mono ?_
  rintro e w0 ⟨rfl, hb0⟩
  have hz_hb0 := hb0.size; (try simp at hz_hb0)
  have HB0 := Lib.hid hb0; clear hb0
  go_wp2_with fail
  refine (HR.out _).mono ?_
  rintro e w1 ⟨v, rfl, hr, hb1⟩
  have hz_hb1 := hb1.size; (try simp at hz_hb1)
  obtain ⟨g, cap, rfl, hg1, hg2, hcl⟩ := hr.open (frol_len q a k) hk1
  have HCL := Lib.hid hcl; clear hcl hr
  have HB1 := Lib.hid hb1; clear hb1
  go_wp2_with fail
  go_loopw [6, 17] (fun vo vi wr => ∃ n : Nat, n ≤ k ∧ vi = .int .i64 n ∧ Row wr w1.heap.size vo (ddTo q a n) ∧ Below w1.heap.size w1 wr) (fun _ vi _ => k - (intOf vi).toNat)
  case atStart => exact ⟨0, Nat.zero_le _, rfl, Row.nil _ _, Below.refl _ _⟩
  case round =>
    obtain ⟨n, hn, rfl, hr, hb⟩ := hrel
    have hS : ddTo q a (n + 1) = if (ddTo q a n).contains (fro q a n) then ddTo q a n else ddTo q a n ++ [fro q a n] := rfl
    have HL := Lib.hid (ddTo_len q a n)
    by_cases hlt : n < k
    · have hc := (hb.cell (p := ⟨g, n, none⟩) hg2).trans (HCL.out n hlt)
      rw [frol_get _ _ _ _ hlt] at hc
      have hz := hb.size
      have HC := Lib.hid (fun x => has_sl _ (ddTo q a n) x wr hr.sl (by have := HL.out; omega))
      have HRr := Lib.hid hr; clear hr
      have HB := Lib.hid hb; clear hb
      cases ht : (ddTo q a n).contains (fro q a n) with
      | true =>
        rw [ht] at hS
        have HS := Lib.hid hS; clear hS
        have HT := Lib.hid ht; clear ht
        generalize fro q a n = x at *
        have hcx := HC.out x
        rw [HT.out] at hcx
        have HCX := Lib.hid hcx; clear hcx
        go_wp2_with fail
        refine HCX.out.mono ?_
        rintro e w2 ⟨rfl, rfl⟩
        go_wp2
        go_roundw
        case rel => exact ⟨n + 1, by omega, by go_num, by rw [HS.out]; exact HRr.out, HB.out⟩
        case measure => simp [intOf]; omega
      | false =>
        rw [ht] at hS
        have HS := Lib.hid hS; clear hS
        have HT := Lib.hid ht; clear ht
        generalize fro q a n = x at *
        have hcx := HC.out x
        rw [HT.out] at hcx
        have HCX := Lib.hid hcx; clear hcx
        go_wp2_with (first | (go_at_call 109; refine HCX.out.mono ?_; rintro e w2 ⟨rfl, rfl⟩) | (at_builtin; refine wpList_append_own _ rfl _ _ 22 rfl w1.heap.size 3 i0 (.int .i64 0) 1 8 Try.underlying22 hi iz0 iz1 iz2 rfl (by decide) _ _ _ rfl (World.ownsRow.alloc HRr.out _) ⟨wr.heap.size, 0, none⟩ 1 1 [.int .i64 x] rfl rfl ?c1 ?c2 ?c3 ?c4 ?c5 ?_))
        case c1 => exact cell_one_new _ _ _
        case c2 => intro u hu; simp at hu; subst hu; rfl
        case c3 => have := HL.out; unfold maxLen; omega
        case c4 => have := HL.out; omega
        case c5 => simp; omega
        intro v' w3 hown hgrow _
        have HR3 := Lib.hid (Row.appended hown)
        have hb : Below w1.heap.size w1 (wr.alloc (.cells #[.int .i64 x] 3)) := by have hb1 := HB.out; (repeat' (first | (with_reducible assumption) | (with_reducible exact Below.refl _ _) | (with_reducible refine below_drewN ?_ _) | (with_reducible refine Below.drew ?_) | (with_reducible refine Below.alloc ?_ ?_ _) | (with_reducible refine Below.setCell ?_ ?_ _) | (with_reducible refine Below.trans ?_ (Below.mono (by assumption) ?_)) | (with_reducible exact Nat.le_refl _) | (with_reducible assumption) | omega | (simp; omega) | (simp; done)))
        have HB3 := Lib.hid (hb.grown hgrow (by simp; omega) (fun g hg => (HRr.out.lt g hg).1))
        clear hown hgrow hb
        go_wp2
        go_roundw
        case rel => exact ⟨n + 1, by omega, by go_num, by rw [HS.out]; exact HR3.out, HB3.out⟩
        case measure => simp [intOf]; omega
    · obtain rfl : k = n := by omega
      rw [HM.out] at hr
      have HRr := Lib.hid hr; clear hr
      have HB := Lib.hid hb; clear hb hS
      go_wp2
      go_ret2
      exact ⟨_, rfl, HRr.out.mono (by omega), HB0.out.trans ((HB1.out.trans (HB.out.mono hz_hb1)).mono hz_hb0)⟩
theorem spec_ConjugatesOf_no (q a : Int) (w : World) (ha : inE q a = false) :
    Calls Try.prog 52 #[.int .i64 q, .int .i64 a] w fun e w' => e = .returned (.tuple #[.slice none 0 0, .bool false]) ∧ Below w.heap.size w w' := by
  go_enter Try.func52, Try.ntmps52
  go_wp2_with fail
  refine (fdIn_any _ _ _).mono ?_
  rintro e w1 ⟨rfl, hb1⟩
  have hz_hb1 := hb1.size; (try simp at hz_hb1)
  go_wp2_with fail
  go_ret2
  exact ⟨rfl, by (repeat' (first | (with_reducible assumption) | (with_reducible exact Below.refl _ _) | (with_reducible refine below_drewN ?_ _) | (with_reducible refine Below.drew ?_) | (with_reducible refine Below.alloc ?_ ?_ _) | (with_reducible refine Below.setCell ?_ ?_ _) | (with_reducible refine Below.trans ?_ (Below.mono (by assumption) ?_)) | (with_reducible exact Nat.le_refl _) | (with_reducible assumption) | omega | (simp; omega) | (simp; done)))⟩
theorem impl_ConjugatesOf_no (q a : Int) (w : World) (ha : inE q a = false) :
    Calls Try.prog 51 #[.int .i64 q, .int .i64 a] w fun e w' => e = .returned (.tuple #[.slice none 0 0, .bool false]) ∧ Below w.heap.size w w' := by
  have HC := Lib.hid (fun w => elementOf_no q a w ha)
  clear ha
  go_enter Try.func51, Try.ntmps51
  go_wp2_with fail
  refine (HC.out _).mono ?_
  rintro e w1 ⟨rfl, hb1⟩
  have hz_hb1 := hb1.size; (try simp at hz_hb1)
  have HB1 := Lib.hid hb1; clear hb1
  go_wp2_with fail
  go_ret2
  have hb1 := HB1.out
  exact ⟨rfl, by (repeat' (first | (with_reducible assumption) | (with_reducible exact Below.refl _ _) | (with_reducible refine below_drewN ?_ _) | (with_reducible refine Below.drew ?_) | (with_reducible refine Below.alloc ?_ ?_ _) | (with_reducible refine Below.setCell ?_ ?_ _) | (with_reducible refine Below.trans ?_ (Below.mono (by assumption) ?_)) | (with_reducible exact Nat.le_refl _) | (with_reducible assumption) | omega | (simp; omega) | (simp; done)))⟩
/-- '==' on two elements, at their digits. -/
theorem eq_dg (q x y : Int) (h : isSz q = true) (x0 : 0 ≤ x) (x1 : x < q) (y0 : 0 ≤ y) (y1 : y < q) (w : World) :
    (Op.equalIn 9999 85 (.agg #[.int .i64 (dg q x 0), .int .i64 (dg q x 1), .int .i64 (dg q x 2), .int .i64 (dg q x 3)]) (.agg #[.int .i64 (dg q y 0), .int .i64 (dg q y 1), .int .i64 (dg q y 2), .int .i64 (dg q y 3)])).run Try.prog w = .ok (decide (x = y)) w := by
  rw [← dg_inj q x y h x0 x1 y0 y1]
  exact eq_arr 85 Try.underlying85 _ _ _ _ _ _ _ _ 9997 w
theorem TS.keep {w0 wr w' : World} {q x : Int} {f : Nat → Int} {m S g B : Nat} (h : TS w0 wr q x f m S g) (hb : Below B wr w') (hg : g < B) : TS w0 w' q x f m S g := by
  have h0 := h.s0
  have h1 := h.lt
  exact ⟨(hb.block _ (by omega)).trans h.hs, h.hk.below hb hg, h.he.below hb hg, h.bel.trans (hb.mono (by omega)), h0, h1⟩

set_option maxRecDepth 100000 in
set_option maxHeartbeats 8000000 in
/-- impl.ConjugatesOf. -/
theorem impl_ConjugatesOf_yes (q a : Int) (w : World) (ha : inE q a = true) :
    Calls Try.prog 51 #[.int .i64 q, .int .i64 a] w fun e w' => ∃ v, e = .returned (.tuple #[v, .bool true]) ∧ Row w' w.heap.size v (frol q a (cjn q a)) ∧ Below w.heap.size w w' := by
  obtain ⟨i0, hi, iz0, iz1, iz2⟩ := info_parts Try.infoI
  obtain ⟨h, a0, a1⟩ := inE_yes ha
  have hk := plN_bd q h
  obtain ⟨_, hc1, hc2, hc3, _⟩ := dd_model q a h a0 a1
  have HNE := Lib.hid (dd_ne q a h a0 a1)
  have HF := Lib.hid (fun w => elementOf_yes q a w ha)
  have HE := Lib.hid (fun w => conjugatesE q a w h a0 a1)
  have HN := Lib.hid (fun (n : Nat) w => numberE q (fro q a n) w h (fro_bd q a h a0 a1 n).1 (fro_bd q a h a0 a1 n).2)
  have HEQ := Lib.hid (fun (n : Nat) w => eq_dg q (fro q a n) a h (fro_bd q a h a0 a1 n).1 (fro_bd q a h a0 a1 n).2 a0 a1 w)
  generalize plN q = m at HE hk hc2 hc3
  generalize cjn q a = c at *
  have HC3 := Lib.hid hc3; clear hc3
  obtain ⟨hk1, hk4⟩ := hk
  clear h ha
  go_enter Try.func51, Try.ntmps51
  go_wp2_with fail
  refine (HF.out _).mono ?_
  rintro e w1 ⟨rfl, hb1⟩
  obtain ⟨hc1, hf1⟩ := bcell hb1; have hz1 := hb1.size; (try simp at hz1); have HB1 := Lib.hid hb1; clear hb1
  go_wp2_with fail
  refine (HE.out _).mono ?_
  rintro e w3 ⟨g, cp, rfl, hg, hkb, hel, hb3⟩
  simp at hg
  have hz3 := hb3.size
  simp at hz3
  have hgl := hkb.lt
  have hts : TS w w3 q a (fro q a) m w1.heap.size g := by
    have hb1 := HB1.out
    refine ⟨?_, hkb, hel, ?_, by omega, by omega⟩
    · rw [hb3.block _ (by simp), heap_alloc_new]
    · (repeat' (first | (with_reducible assumption) | (with_reducible exact Below.refl _ _) | (with_reducible refine below_drewN ?_ _) | (with_reducible refine Below.drew ?_) | (with_reducible refine Below.alloc ?_ ?_ _) | (with_reducible refine Below.setCell ?_ ?_ _) | (with_reducible refine Below.trans ?_ (Below.mono (by assumption) ?_)) | (with_reducible exact Nat.le_refl _) | (with_reducible assumption) | omega | (simp; omega) | (simp; done)))
  have HTS := Lib.hid hts
  clear hts hkb hel hb3 hc1 hf1
  go_wp2_with fail
  go_loopw [8, 22] (fun vo vi wr => ∃ i : Nat, i ≤ c ∧ vi = .int .i64 i ∧ TS w wr q a (fro q a) m w1.heap.size g ∧ Row wr w3.heap.size vo (frol q a i) ∧ w3.heap.size ≤ wr.heap.size) (fun _ vi _ => m - (intOf vi).toNat)
  case atStart => exact ⟨0, Nat.zero_le _, rfl, HTS.out, Row.nil _ _, Nat.le_refl _⟩
  case round =>
    obtain ⟨i, hi', rfl, ht, hr, hz⟩ := hrel
    have HF' := Lib.hid (frol_succ q a i)
    have HL := Lib.hid (frol_len q a i)
    have HN' := Lib.hid (fun w => HN.out i w)
    have HEQ' := Lib.hid (fun w => HEQ.out i w)
    obtain ⟨p0, p1, p2, p3, p4, p5, p6, pf, pl'⟩ := seven ht.hs
    have hgr := ht.hk.lt
    by_cases hlt : i < m
    · obtain ⟨c0, c1, c2, c3, c4, c5, c6⟩ := ht.he i hlt
      have HTT := Lib.hid ht; clear ht
      have HR := Lib.hid hr; clear hr
      have hgl' : g < wr.heap.size := hgr
      by_cases hic : i < c
      · have hgo : i = 0 ∨ (0 < i ∧ decide (fro q a i = a) = false) := by
          rcases Nat.eq_zero_or_pos i with h | h
          · exact .inl h
          · exact .inr ⟨h, by simpa using HNE.out i h hic⟩
        generalize fro q a i = x at *
        rcases hgo with h0 | ⟨h0, hd⟩
        · have h0' : ¬ (0 : Int) < (i : Int) := by omega
          clear h0
          go_wp2_with fail
          refine (HN'.out _).mono ?_
          rintro e w5 ⟨rfl, hb5⟩
          have hz_hb5 := hb5.size; (try simp at hz_hb5)
          have HR5 := Lib.hid ((HR.out.alloc (eblk q x)).below hb5)
          have HB5 : Hid (Below wr.heap.size wr w5) := Lib.hid (by (repeat' (first | (with_reducible assumption) | (with_reducible exact Below.refl _ _) | (with_reducible refine below_drewN ?_ _) | (with_reducible refine Below.drew ?_) | (with_reducible refine Below.alloc ?_ ?_ _) | (with_reducible refine Below.setCell ?_ ?_ _) | (with_reducible refine Below.trans ?_ (Below.mono (by assumption) ?_)) | (with_reducible exact Nat.le_refl _) | (with_reducible assumption) | omega | (simp; omega) | (simp; done))))
          clear hb5
          go_wp2_with (at_builtin; refine wpList_append_own _ rfl _ _ 22 rfl w3.heap.size 3 i0 (.int .i64 0) 1 8 Try.underlying22 hi iz0 iz1 iz2 rfl (by decide) _ _ _ rfl (World.ownsRow.alloc HR5.out _) ⟨w5.heap.size, 0, none⟩ 1 1 [.int .i64 x] rfl rfl ?c1 ?c2 ?c3 ?c4 ?c5 ?_)
          case c1 => exact cell_one_new _ _ _
          case c2 => intro u hu; simp at hu; subst hu; rfl
          case c3 => have := HL.out; unfold maxLen; omega
          case c4 => have := HL.out; omega
          case c5 => simp; omega
          intro v' w6 hown hgrow _
          have HR6 := Lib.hid (Row.appended hown)
          have hb : Below w3.heap.size wr (w5.alloc (.cells #[.int .i64 x] 3)) := (HB5.out.mono hz).alloc (by omega) _
          have HB6 := Lib.hid (hb.grown hgrow (by simp; omega) (fun g hg => (HR5.out.lt g hg).1))
          clear hown hgrow hb
          go_wp2
          go_roundw
          case rel => exact ⟨i + 1, by omega, by go_num, HTT.out.keep HB6.out hgl, by rw [HF'.out]; exact HR6.out, by have := HB6.out.size; omega⟩
          case measure => simp [intOf]; omega
        · have h0' : (0 : Int) < (i : Int) := by omega
          clear h0
          go_wp2_with (simp only [HEQ'.out, Result.andThen_ok, hd])
          refine (HN'.out _).mono ?_
          rintro e w5 ⟨rfl, hb5⟩
          have hz_hb5 := hb5.size; (try simp at hz_hb5)
          have HR5 := Lib.hid ((HR.out.alloc (eblk q x)).below hb5)
          have HB5 : Hid (Below wr.heap.size wr w5) := Lib.hid (by (repeat' (first | (with_reducible assumption) | (with_reducible exact Below.refl _ _) | (with_reducible refine below_drewN ?_ _) | (with_reducible refine Below.drew ?_) | (with_reducible refine Below.alloc ?_ ?_ _) | (with_reducible refine Below.setCell ?_ ?_ _) | (with_reducible refine Below.trans ?_ (Below.mono (by assumption) ?_)) | (with_reducible exact Nat.le_refl _) | (with_reducible assumption) | omega | (simp; omega) | (simp; done))))
          clear hb5
          go_wp2_with (at_builtin; refine wpList_append_own _ rfl _ _ 22 rfl w3.heap.size 3 i0 (.int .i64 0) 1 8 Try.underlying22 hi iz0 iz1 iz2 rfl (by decide) _ _ _ rfl (World.ownsRow.alloc HR5.out _) ⟨w5.heap.size, 0, none⟩ 1 1 [.int .i64 x] rfl rfl ?c1 ?c2 ?c3 ?c4 ?c5 ?_)
          case c1 => exact cell_one_new _ _ _
          case c2 => intro u hu; simp at hu; subst hu; rfl
          case c3 => have := HL.out; unfold maxLen; omega
          case c4 => have := HL.out; omega
          case c5 => simp; omega
          intro v' w6 hown hgrow _
          have HR6 := Lib.hid (Row.appended hown)
          have hb : Below w3.heap.size wr (w5.alloc (.cells #[.int .i64 x] 3)) := (HB5.out.mono hz).alloc (by omega) _
          have HB6 := Lib.hid (hb.grown hgrow (by simp; omega) (fun g hg => (HR5.out.lt g hg).1))
          clear hown hgrow hb
          go_wp2
          go_roundw
          case rel => exact ⟨i + 1, by omega, by go_num, HTT.out.keep HB6.out hgl, by rw [HF'.out]; exact HR6.out, by have := HB6.out.size; omega⟩
          case measure => simp [intOf]; omega
      · obtain rfl : i = c := by omega
        have hd : decide (fro q a i = a) = true := by simpa using HC3.out hlt
        have h0' : (0 : Int) < (i : Int) := by omega
        generalize hx : fro q a i = x at *
        clear hx
        go_wp2_with (simp only [HEQ'.out, Result.andThen_ok, hd])
        go_ret2
        have h0 := HTT.out.s0
        exact ⟨_, rfl, (HR.out.alloc _).mono (by omega), by have hb := HTT.out.bel; (repeat' (first | (with_reducible assumption) | (with_reducible exact Below.refl _ _) | (with_reducible refine below_drewN ?_ _) | (with_reducible refine Below.drew ?_) | (with_reducible refine Below.alloc ?_ ?_ _) | (with_reducible refine Below.setCell ?_ ?_ _) | (with_reducible refine Below.trans ?_ (Below.mono (by assumption) ?_)) | (with_reducible exact Nat.le_refl _) | (with_reducible assumption) | omega | (simp; omega) | (simp; done)))⟩
    · obtain rfl : m = i := by omega
      obtain rfl : c = m := by omega
      have HTT := Lib.hid ht; clear ht
      have HR := Lib.hid hr; clear hr
      go_wp2_with fail
      go_ret2
      have h0 := HTT.out.s0
      exact ⟨_, rfl, HR.out.mono (by omega), HTT.out.bel⟩
end Go.Proofs.Ytapglncgicfjnaa
