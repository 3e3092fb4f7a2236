/- spec.peAsked, spec.NormalWith and spec.CountPermuting, by contracts. -/
import Derived.Test.YtnmdcmbcackchabMH
namespace Go.Proofs.Ytnmdcmbcackchab
open Go.RowKit
/-- Are polynomials of a degree looked at? -/
def askd (q k : Int) : Bool := (isSz q && decide (q ≤ 7)) && (decide (1 ≤ k) && decide (k ≤ q - 1))
theorem askd_nat {q k : Int} (h : askd q k = true) : ∃ m d : Nat, q = (m : Int) ∧ k = (d : Int) ∧ isSz (m : Int) = true ∧ m ≤ 7 ∧ 1 ≤ d ∧ d < m := by
  simp only [askd, Bool.and_eq_true, decide_eq_true_eq] at h
  obtain ⟨⟨h1, h2⟩, h3, h4⟩ := h
  have hq := isSz_le q h1
  refine ⟨q.toNat, k.toNat, by omega, by omega, ?_, by omega, by omega, by omega⟩
  rw [show ((q.toNat : Nat) : Int) = q by omega]
  exact h1
theorem l1In_all (k lo hi : Int) (w : World) : Calls Try.prog 41 #[.int .i64 k, .int .i64 lo, .int .i64 hi] w fun e w' => e = .returned (.bool (decide (lo ≤ k) && decide (k ≤ hi))) ∧ w = w' := by
  by_cases h1 : lo ≤ k
  · by_cases h2 : k ≤ hi
    · rw [decide_eq_true h1, decide_eq_true h2]
      go_enter Try.func41, Try.ntmps41
      go_wp2
      go_ret
      exact ⟨rfl, rfl⟩
    · rw [decide_eq_true h1, decide_eq_false h2]
      go_enter Try.func41, Try.ntmps41
      go_wp2
      go_ret
      exact ⟨rfl, rfl⟩
  · rw [decide_eq_false h1]
    go_enter Try.func41, Try.ntmps41
    go_wp2
    go_ret
    exact ⟨rfl, rfl⟩
theorem peAsked_any (q k : Int) (w : World) :
    Calls Try.prog 47 #[.int .i64 q, .int .i64 k] w fun e w' => e = .returned (.bool (askd q k)) ∧ Below w.heap.size w w' := by
  have HS := Lib.hid (fun w => fdSize_any q w)
  have HL := Lib.hid (fun w => l1In_all k 1 (q - 1) w)
  unfold askd
  cases h : isSz q with
  | false =>
    rw [h] at HS
    clear h
    go_enter Try.func47, Try.ntmps47
    go_wp2_with fail
    refine (HS.out _).mono ?_
    rintro e w1 ⟨rfl, hb1⟩
    go_wp2
    go_ret
    exact ⟨rfl, hb1⟩
  | true =>
    rw [h] at HS
    have hq := isSz_le q h
    clear h
    by_cases h7 : q ≤ 7
    · rw [decide_eq_true h7]
      generalize (decide (1 ≤ k) && decide (k ≤ q - 1)) = r at *
      go_enter Try.func47, Try.ntmps47
      go_wp2_with fail
      refine (HS.out _).mono ?_
      rintro e w1 ⟨rfl, hb1⟩
      have HB1 := Lib.hid hb1; clear hb1
      go_wp2_with fail
      refine (HL.out _).mono ?_
      rintro e w2 ⟨rfl, rfl⟩
      go_wp2
      go_ret
      exact ⟨rfl, HB1.out⟩
    · rw [decide_eq_false h7]
      go_enter Try.func47, Try.ntmps47
      go_wp2_with fail
      refine (HS.out _).mono ?_
      rintro e w1 ⟨rfl, hb1⟩
      go_wp2
      go_ret
      exact ⟨rfl, hb1⟩
theorem pow_few {m d : Nat} (h7 : m ≤ 7) (hdm : d < m) : m ^ d ≤ 117649 := by
  have h1 : m ^ d ≤ 7 ^ d := Nat.pow_le_pow_left h7 d
  have h2 : 7 ^ d ≤ 7 ^ 6 := Nat.pow_le_pow_right (by omega) (by omega)
  exact Nat.le_trans h1 h2
/-- The first polynomial: a new list with 1 at its end. -/
theorem pf_new (m d : Nat) : fl (upd (part0 (fun _ => 0) 0) d 1) (d + 1) = fl (pf m d 0) (d + 1) := fl_congr fun i hi => by
  by_cases e : i = d
  · subst e
    rw [upd_at, pf_top]
  · rw [upd_ne _ _ _ _ e, pf_zero m d i (by omega)]
    rfl
set_option maxRecDepth 100000 in
set_option maxHeartbeats 4000000 in
theorem spec_NormalWith_yes (m d : Nat) (w : World) (h : isSz (m : Int) = true) (h7 : m ≤ 7) (hd : 1 ≤ d) (hdm : d < m) :
    Calls Try.prog 19 #[.int .i64 m, .int .i64 d] w fun e w' => ∃ v X, e = .returned (.tuple #[v, .bool true]) ∧ RS w' w.heap.size v (nl m d (m ^ (d - 1))).length (PF m d (nl m d (m ^ (d - 1)))) X ∧ Below w.heap.size w w' := by
  obtain ⟨i0, hi, iz0, iz1, iz2⟩ := info_parts Try.infoI
  have hq := isSz_le (m : Int) h
  have HA : Hid (∀ w, Calls Try.prog 47 #[.int .i64 m, .int .i64 d] w fun e w' => e = .returned (.bool true) ∧ Below w.heap.size w w') := Lib.hid fun w => by
    have := peAsked_any (m : Int) (d : Int) w
    rw [show askd (m : Int) (d : Int) = true by
      unfold askd
      rw [h, decide_eq_true (show (m : Int) ≤ 7 by omega), decide_eq_true (show (1 : Int) ≤ (d : Int) by omega), decide_eq_true (show (d : Int) ≤ (m : Int) - 1 by omega)]
      rfl] at this
    exact this
  obtain ⟨b, hbd⟩ : ∃ b, d = b + 1 := ⟨d - 1, by omega⟩
  have hpow : m ^ b ≤ 117649 := pow_few h7 (by omega)
  have HTRY : Hid (∀ W G B vf X w', TN w w' W G B m d 0 vf [] X → Calls Try.prog 48 #[.pointer (some ⟨W, 0, none⟩), .slice (some ⟨G, 0, none⟩) (d + 1) (d + 1), .int .i64 d, .bool true] w' fun e w' => e = .returned (.tuple #[]) ∧ ∃ vf' X', TN w w' W G B m d 0 vf' (nl m d (m ^ (d - 1))) X') := Lib.hid fun W G B vf X w' ht => by
    have := try_any m d h hdm b 0 W G B vf [] X w w' (by omega) (by simp; omega) (by rw [Nat.zero_mul]; exact ht)
    rw [Nat.zero_mul, ← hbd, sgl_all m d hd, List.nil_append] at this
    exact this
  have HNEW := Lib.hid (pf_new m d)
  generalize nl m d (m ^ (d - 1)) = NL at *
  clear h hbd hpow
  have hw1 : IntKind.i64.wrap ((d : Int) + 1) = ((d + 1 : Nat) : Int) := by rw [IntKind.wrap_i64]; omega
  have HD1 := Lib.hid hw1
  go_enter Try.func19, Try.ntmps19
  go_wp2_with fail
  refine (HA.out _).mono ?_
  rintro e w1 ⟨rfl, hb1⟩
  have HB1 := Lib.hid hb1
  have hz1 := hb1.size
  clear hb1
  go_wp2_with (at_make; refine wpList_make_full _ rfl _ _ 22 rfl w.heap.size 3 i0 (.int .i64 0) 1 Try.underlying22 hi iz0 iz1 .i64 .i64 _ _ (d + 1) rfl rfl ?c1 ?c2 ?c3 ?c4 ?c5 ?_)
  case c1 => rfl
  case c2 => rfl
  case c3 => rw [iz2]; omega
  case c4 => unfold maxLen; omega
  case c5 => simp; omega
  intro w2 hown hgrow
  have hr2 := Row.madeF (fun _ => 0) hown
  have HB2 : Hid (Below w.heap.size w w2) := Lib.hid ((HB1.out.alloc (by omega) _).grown hgrow (by simp; omega) (fun k hk => by cases hk))
  have hz2 := hgrow.size
  have hW2 : w2.heap[w1.heap.size]? = some (.cells #[.int .i64 m, .int .i64 0, .slice none 0 0] 62 (0, 0)) := (hgrow.block w1.heap.size (by simp) (fun e => by cases e)).trans (heap_alloc_new w1 _)
  have hG := (hr2.lt (w1.heap.size + 1) rfl).2
  simp at hz2
  have e2 := Row.cell (l := fl (part0 (fun _ => 0) 0) (d + 1)) (cap := d + 1) (by rw [fl_len]; exact hr2) d (by rw [fl_len]; omega)
  have f2 := hr2.frozen (by rw [fl_len]) d
  have hr3 := hr2.store (by rw [fl_len]) d 1
  rw [fl_set, HNEW.out] at hr3
  generalize (fl (part0 (fun _ => 0) 0) (d + 1)).getD d 0 = u at *
  clear hown hgrow hr2
  have hTZ : TZ w (w2.setCell ⟨w1.heap.size + 1, d, none⟩ (.int .i64 1)) w1.heap.size (w1.heap.size + 1) m d 0 0 (.slice none 0 0) :=
    ⟨(heap_setCell_other _ _ _ _ (by show w1.heap.size ≠ w1.heap.size + 1; omega)).trans hW2, hr3, HB2.out.setCell (p := ⟨w1.heap.size + 1, d, none⟩) (by show w.heap.size ≤ w1.heap.size + 1; omega) _, hz1, by omega⟩
  have HTN : Hid (TN w (w2.setCell ⟨w1.heap.size + 1, d, none⟩ (.int .i64 1)) w1.heap.size (w1.heap.size + 1) w2.heap.size m d 0 (.slice none 0 0) [] (fun _ => .slice none 0 0)) :=
    Lib.hid ⟨hTZ, RS.nil _ _ _ _, by omega, hG, HB2.out.size, by simp⟩
  have HT := Lib.hid (HTRY.out _ _ _ _ _ _ HTN.out)
  clear hr3 hW2 hTZ
  go_wp2_with fail
  refine HT.out.mono ?_
  rintro e w5 ⟨rfl, vf', X', ht5⟩
  obtain ⟨c0, c1, c2, cf, cl⟩ := cells3 ht5.tz.ww
  have HT5 := Lib.hid ht5
  clear ht5
  go_wp2
  go_ret2
  exact ⟨vf', X', rfl, HT5.out.rs.mono HT5.out.lo, HT5.out.tz.bel⟩
set_option maxRecDepth 100000 in
set_option maxHeartbeats 4000000 in
theorem spec_CountPermuting_yes (m d : Nat) (w : World) (h : isSz (m : Int) = true) (h7 : m ≤ 7) (hd : 1 ≤ d) (hdm : d < m) :
    Calls Try.prog 24 #[.int .i64 m, .int .i64 d] w fun e w' => e = .returned (.tuple #[.int .i64 (zcl m d d 0 * (m - 1) * m : Nat), .bool true]) ∧ Below w.heap.size w w' := by
  obtain ⟨i0, hi, iz0, iz1, iz2⟩ := info_parts Try.infoI
  have hq := isSz_le (m : Int) h
  have HA : Hid (∀ w, Calls Try.prog 47 #[.int .i64 m, .int .i64 d] w fun e w' => e = .returned (.bool true) ∧ Below w.heap.size w w') := Lib.hid fun w => by
    have := peAsked_any (m : Int) (d : Int) w
    rw [show askd (m : Int) (d : Int) = true by
      unfold askd
      rw [h, decide_eq_true (show (m : Int) ≤ 7 by omega), decide_eq_true (show (1 : Int) ≤ (d : Int) by omega), decide_eq_true (show (d : Int) ≤ (m : Int) - 1 by omega)]
      rfl] at this
    exact this
  obtain ⟨b, hbd⟩ : ∃ b, d = b + 1 := ⟨d - 1, by omega⟩
  have hpow : m ^ b ≤ 117649 := pow_few h7 (by omega)
  have hzb : zcl m d d 0 ≤ 117649 := by
    have := zcl_le m d b 0
    rw [← hbd] at this
    omega
  have HTRY : Hid (∀ W G vf w', TZ w w' W G m d 0 0 vf → Calls Try.prog 53 #[.pointer (some ⟨W, 0, none⟩), .slice (some ⟨G, 0, none⟩) (d + 1) (d + 1), .int .i64 d] w' fun e w' => e = .returned (.tuple #[]) ∧ TZ w w' W G m d (zcl m d d 0) 0 vf) := Lib.hid fun W G vf w' ht => by
    have := peZero_any m d h hdm b 0 0 W G vf w w' (by omega) (by omega) (by rw [Nat.zero_mul]; exact ht)
    rw [Nat.zero_mul, ← hbd, Nat.zero_add] at this
    exact this
  have HNEW := Lib.hid (pf_new m d)
  generalize zcl m d d 0 = z at *
  clear h hbd hpow
  obtain ⟨k, hk⟩ : ∃ k, m = k + 1 := ⟨m - 1, by omega⟩
  have hzk : (m : Int) - 1 = (k : Int) := by omega
  obtain ⟨z1, hz1e⟩ : ∃ x, x = z * k := ⟨_, rfl⟩
  have hb1 : z1 ≤ 705894 := by rw [hz1e]; exact Nat.le_trans (Nat.mul_le_mul hzb (show k ≤ 6 by omega)) (show 117649 * 6 ≤ 705894 by decide)
  obtain ⟨z2, hz2e⟩ : ∃ x, x = z1 * m := ⟨_, rfl⟩
  have hb2 : z2 ≤ 4941258 := by rw [hz2e]; exact Nat.le_trans (Nat.mul_le_mul hb1 h7) (show 705894 * 7 ≤ 4941258 by decide)
  have hm1 : (z : Int) * (k : Int) = (z1 : Int) := by rw [hz1e]; rfl
  have hm2 : (z1 : Int) * (m : Int) = (z2 : Int) := by rw [hz2e]; rfl
  rw [show z * (m - 1) * m = z2 by rw [hz2e, hz1e, show m - 1 = k by omega]]
  have HZE := Lib.hid (And.intro hz1e hz2e)
  have HM := Lib.hid (And.intro hm1 (And.intro hm2 (And.intro hb1 (And.intro hb2 (And.intro hzb hzk)))))
  clear hz1e hz2e hm1 hm2 hb1 hb2 hzb hzk hk
  have hw1 : IntKind.i64.wrap ((d : Int) + 1) = ((d + 1 : Nat) : Int) := by rw [IntKind.wrap_i64]; omega
  go_enter Try.func24, Try.ntmps24
  go_wp2_with fail
  refine (HA.out _).mono ?_
  rintro e w1 ⟨rfl, hb1⟩
  have HB1 := Lib.hid hb1
  have hz1 := hb1.size
  clear hb1
  go_wp2_with (at_make; refine wpList_make_full _ rfl _ _ 22 rfl w.heap.size 3 i0 (.int .i64 0) 1 Try.underlying22 hi iz0 iz1 .i64 .i64 _ _ (d + 1) rfl rfl ?c1 ?c2 ?c3 ?c4 ?c5 ?_)
  case c1 => rfl
  case c2 => rfl
  case c3 => rw [iz2]; omega
  case c4 => unfold maxLen; omega
  case c5 => simp; omega
  intro w2 hown hgrow
  have hr2 := Row.madeF (fun _ => 0) hown
  have HB2 : Hid (Below w.heap.size w w2) := Lib.hid ((HB1.out.alloc (by omega) _).grown hgrow (by simp; omega) (fun k hk => by cases hk))
  have hz2 := hgrow.size
  have hW2 : w2.heap[w1.heap.size]? = some (.cells #[.int .i64 m, .int .i64 0, .slice none 0 0] 62 (0, 0)) := (hgrow.block w1.heap.size (by simp) (fun e => by cases e)).trans (heap_alloc_new w1 _)
  have hG := (hr2.lt (w1.heap.size + 1) rfl).2
  simp at hz2
  have e2 := Row.cell (l := fl (part0 (fun _ => 0) 0) (d + 1)) (cap := d + 1) (by rw [fl_len]; exact hr2) d (by rw [fl_len]; omega)
  have f2 := hr2.frozen (by rw [fl_len]) d
  have hr3 := hr2.store (by rw [fl_len]) d 1
  rw [fl_set, HNEW.out] at hr3
  generalize (fl (part0 (fun _ => 0) 0) (d + 1)).getD d 0 = u at *
  clear hown hgrow hr2
  have hTZ : TZ w (w2.setCell ⟨w1.heap.size + 1, d, none⟩ (.int .i64 1)) w1.heap.size (w1.heap.size + 1) m d 0 0 (.slice none 0 0) :=
    ⟨(heap_setCell_other _ _ _ _ (by show w1.heap.size ≠ w1.heap.size + 1; omega)).trans hW2, hr3, HB2.out.setCell (p := ⟨w1.heap.size + 1, d, none⟩) (by show w.heap.size ≤ w1.heap.size + 1; omega) _, hz1, by omega⟩
  have HTN := Lib.hid hTZ
  have HT := Lib.hid (HTRY.out _ _ _ _ HTN.out)
  clear hr3 hW2 hTZ
  go_wp2_with fail
  refine HT.out.mono ?_
  rintro e w5 ⟨rfl, ht5⟩
  obtain ⟨c0, c1, c2, cf, cl⟩ := cells3 ht5.ww
  have HT5 := Lib.hid ht5
  clear ht5
  obtain ⟨hm1, hm2, hb1, hb2, hzb, hzk⟩ := HM.out
  go_wp2
  go_ret2
  exact ⟨rfl, HT5.out.bel⟩
theorem spec_asked_no (q k : Int) (w : World) (h : askd q k = false) :
    Calls Try.prog 47 #[.int .i64 q, .int .i64 k] w fun e w' => e = .returned (.bool false) ∧ Below w.heap.size w w' := by
  have := peAsked_any q k w
  rw [h] at this
  exact this
theorem spec_NormalWith_no (q k : Int) (w : World) (h : askd q k = false) :
    Calls Try.prog 19 #[.int .i64 q, .int .i64 k] w fun e w' => e = .returned (.tuple #[.slice none 0 0, .bool false]) ∧ Below w.heap.size w w' := by
  have HA := Lib.hid (fun w => spec_asked_no q k w h)
  clear h
  go_enter Try.func19, Try.ntmps19
  go_wp2_with fail
  refine (HA.out _).mono ?_
  rintro e w1 ⟨rfl, hb1⟩
  go_wp2
  go_ret2
  exact ⟨rfl, hb1⟩
theorem spec_CountPermuting_no (q k : Int) (w : World) (h : askd q k = false) :
    Calls Try.prog 24 #[.int .i64 q, .int .i64 k] w fun e w' => e = .returned (.tuple #[.int .i64 0, .bool false]) ∧ Below w.heap.size w w' := by
  have HA := Lib.hid (fun w => spec_asked_no q k w h)
  clear h
  go_enter Try.func24, Try.ntmps24
  go_wp2_with fail
  refine (HA.out _).mono ?_
  rintro e w1 ⟨rfl, hb1⟩
  go_wp2
  go_ret2
  exact ⟨rfl, hb1⟩
end Go.Proofs.Ytnmdcmbcackchab
