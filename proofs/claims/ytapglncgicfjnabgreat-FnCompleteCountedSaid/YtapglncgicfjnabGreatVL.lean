/- RankComplete, of both, by contracts; the walk of its law. -/
import Derived.Test.YtapglncgicfjnabGreatVK
namespace Go.Proofs.YtapglncgicfjnabGreat
open Go.RowKit
theorem same_len {l1 l2 : List Int} (hl : l1.length = l2.length) (h : ∀ i, i < l1.length → l1.getD i 0 = l2.getD i 0) : l1 = l2 := by
  refine List.ext_getElem hl fun i h1 h2 => ?_
  have := h i h1
  simpa [List.getD, List.getElem?_eq_getElem h1, List.getElem?_eq_getElem h2] using this
set_option maxRecDepth 100000 in
set_option maxHeartbeats 4000000 in
theorem l1Same_any (v1 v2 : Value) (l1 l2 : List Int) (w : World) (h1 : Sl w v1 l1) (h2 : Sl w v2 l2) (b1 : l1.length ≤ 1048576) :
    Calls Tryz.prog 143 #[v1, v2] w fun e w' => e = .returned (.bool (decide (l1 = l2))) ∧ Below w.heap.size w w' := by
  obtain ⟨a1, c1, rfl⟩ := h1.form
  obtain ⟨a2, c2, rfl⟩ := h2.form
  by_cases hl : l1.length = l2.length
  · have HYES : Hid ((∀ i, i < l1.length → l1.getD i 0 = l2.getD i 0) → decide (l1 = l2) = true) := Lib.hid fun h => by simpa using same_len hl h
    have HNO : Hid (∀ i, i < l1.length → l1.getD i 0 ≠ l2.getD i 0 → decide (l1 = l2) = false) := Lib.hid fun i _ h => by
      rw [decide_eq_false_iff_not]
      intro e
      exact h (by rw [e])
    generalize decide (l1 = l2) = r at *
    by_cases h0 : 0 < l1.length
    · obtain ⟨g1, o1, c1', e1, hb1, hc1⟩ := h1.open rfl h0
      obtain ⟨g2, o2, c2', e2, hb2, hc2⟩ := h2.open rfl (by omega)
      cases e1
      cases e2
      have HC1 := Lib.hid hc1
      have HC2 := Lib.hid hc2
      rw [← hl] at HC2
      clear h1 h2 hc1 hc2
      obtain ⟨n, hn⟩ : ∃ n, l1.length = n := ⟨_, rfl⟩
      rw [hn] at HYES HNO HC1 HC2 h0 b1
      rw [hn] at hl ⊢
      rw [← hl]
      clear hl hn
      obtain ⟨f1, hf1⟩ : ∃ f : Nat → Int, f = fun i => l1.getD i 0 := ⟨_, rfl⟩
      obtain ⟨f2, hf2⟩ : ∃ f : Nat → Int, f = fun i => l2.getD i 0 := ⟨_, rfl⟩
      have e1 : ∀ i, l1.getD i 0 = f1 i := fun i => by rw [hf1]
      have e2 : ∀ i, l2.getD i 0 = f2 i := fun i => by rw [hf2]
      simp only [e1, e2] at HYES HNO HC1 HC2
      clear e1 e2 hf1 hf2
      go_enter Tryz.func143, Tryz.ntmps143
      go_wp2_with fail
      go_loopw [13] (fun vk wr => ∃ k : Nat, k ≤ n ∧ vk = .int .i64 k ∧ (∀ i, i < k → f1 i = f2 i) ∧ Below w.heap.size w wr) (fun vk _ => n - (intOf vk).toNat)
      case atStart => exact ⟨0, Nat.zero_le _, rfl, fun i hi => absurd hi (Nat.not_lt_zero _), Below.refl _ _⟩
      case round =>
        obtain ⟨k, hk, rfl, hall, hbw⟩ := hrel
        have HALL := Lib.hid hall; clear hall
        have HBW := Lib.hid hbw
        have hzr := hbw.size
        clear hbw
        by_cases hlt : k < n
        · have z1 := (HBW.out.cell (p := ⟨g1, o1 + k, none⟩) hb1).trans (HC1.out k hlt)
          have z2 := (HBW.out.cell (p := ⟨g2, o2 + k, none⟩) hb2).trans (HC2.out k hlt)
          have hgr1 : g1 < wr.heap.size := by omega
          have hgr2 : g2 < wr.heap.size := by omega
          have HN' := Lib.hid (HNO.out k hlt)
          have HA' : Hid (f1 k = f2 k → ∀ i, i < k + 1 → f1 i = f2 i) := Lib.hid fun e i hi => by
            by_cases c : i = k
            · subst c; exact e
            · exact HALL.out i (by omega)
          have hk0 : (0 : Int) ≤ (k : Int) := by omega
          have hk1 : (k : Int) < (n : Int) := by omega
          generalize f1 k = x at *
          generalize f2 k = y at *
          by_cases hxy : x = y
          · have HA2 := Lib.hid (HA'.out hxy)
            have hbx : (x != y) = false := by simpa using hxy
            have hbx2 : (x == y) = true := by simpa using hxy
            clear hxy
            go_wp2_with fail
            go_region
            all_goals
              go_wp2_with fail
              go_roundw
              case rel => exact ⟨k + 1, by omega, by go_num, HA2.out, by have hb := HBW.out; (repeat' (first | (with_reducible assumption) | (with_reducible exact Below.refl _ _) | (with_reducible refine below_drewN ?_ _) | (with_reducible refine Below.drew ?_) | (with_reducible refine Below.alloc ?_ ?_ _) | (with_reducible refine Below.setCell ?_ ?_ _) | (with_reducible refine Below.trans ?_ (Below.mono (by assumption) ?_)) | (with_reducible exact Nat.le_refl _) | (with_reducible assumption) | omega | (simp; omega) | (simp; done)))⟩
              case measure => (simp [intOf]; try omega)
          · have HF := Lib.hid (HN'.out hxy)
            have hbx : (x != y) = true := by simpa using hxy
            have hbx2 : (x == y) = false := by simpa using hxy
            clear hxy
            go_wp2_with fail
            go_region
            all_goals
              go_wp2
              go_ret
              exact ⟨ret_bool HF.out.symm, by have hb := HBW.out; (repeat' (first | (with_reducible assumption) | (with_reducible exact Below.refl _ _) | (with_reducible refine below_drewN ?_ _) | (with_reducible refine Below.drew ?_) | (with_reducible refine Below.alloc ?_ ?_ _) | (with_reducible refine Below.setCell ?_ ?_ _) | (with_reducible refine Below.trans ?_ (Below.mono (by assumption) ?_)) | (with_reducible exact Nat.le_refl _) | (with_reducible assumption) | omega | (simp; omega) | (simp; done)))⟩
        · obtain rfl : k = n := by omega
          have HF := Lib.hid (HYES.out HALL.out)
          go_wp2
          go_ret
          exact ⟨ret_bool HF.out.symm, HBW.out⟩
    · have HF := Lib.hid (HYES.out (fun i hi => by omega))
      have h10 : l1.length = 0 := by omega
      rw [← hl, h10]
      clear h1 h2 HYES HNO hl b1 h0 h10
      go_enter Tryz.func143, Tryz.ntmps143
      go_wp2_with fail
      go_loopw [13] (fun vk wr => vk = .int .i64 0 ∧ w = wr) (fun _ _ => 0)
      case atStart => exact ⟨rfl, rfl⟩
      case round =>
        obtain ⟨rfl, rfl⟩ := hrel
        go_wp2
        go_ret
        exact ⟨ret_bool HF.out.symm, Below.refl _ _⟩
  · have hd : decide (l1 = l2) = false := by
      rw [decide_eq_false_iff_not]
      intro e
      exact hl (by rw [e])
    rw [hd]
    have hne : ¬ (l1.length : Int) = (l2.length : Int) := by omega
    have hb : ((l1.length : Int) == (l2.length : Int)) = false := by simpa using hne
    clear h1 h2 hd hl
    generalize l1.length = n1 at *
    generalize l2.length = n2 at *
    go_enter Tryz.func143, Tryz.ntmps143
    go_wp2
    go_ret
    exact ⟨rfl, Below.refl _ _⟩
set_option maxRecDepth 100000 in
set_option maxHeartbeats 4000000 in
theorem slEqual_any (v1 v2 : Value) (l1 l2 : List Int) (w : World) (h1 : Sl w v1 l1) (h2 : Sl w v2 l2) (b1 : l1.length ≤ 1048576) :
    Calls Tryz.prog 140 #[v1, v2] w fun e w' => e = .returned (.bool (decide (l1 = l2))) ∧ Below w.heap.size w w' := by
  obtain ⟨a1, c1, rfl⟩ := h1.form
  obtain ⟨a2, c2, rfl⟩ := h2.form
  by_cases hl : l1.length = l2.length
  · have HYES : Hid ((∀ i, i < l1.length → l1.getD i 0 = l2.getD i 0) → decide (l1 = l2) = true) := Lib.hid fun h => by simpa using same_len hl h
    have HNO : Hid (∀ i, i < l1.length → l1.getD i 0 ≠ l2.getD i 0 → decide (l1 = l2) = false) := Lib.hid fun i _ h => by
      rw [decide_eq_false_iff_not]
      intro e
      exact h (by rw [e])
    generalize decide (l1 = l2) = r at *
    by_cases h0 : 0 < l1.length
    · obtain ⟨g1, o1, c1', e1, hb1, hc1⟩ := h1.open rfl h0
      obtain ⟨g2, o2, c2', e2, hb2, hc2⟩ := h2.open rfl (by omega)
      cases e1
      cases e2
      have HC1 := Lib.hid hc1
      have HC2 := Lib.hid hc2
      rw [← hl] at HC2
      clear h1 h2 hc1 hc2
      obtain ⟨n, hn⟩ : ∃ n, l1.length = n := ⟨_, rfl⟩
      rw [hn] at HYES HNO HC1 HC2 h0 b1
      rw [hn] at hl ⊢
      rw [← hl]
      clear hl hn
      obtain ⟨f1, hf1⟩ : ∃ f : Nat → Int, f = fun i => l1.getD i 0 := ⟨_, rfl⟩
      obtain ⟨f2, hf2⟩ : ∃ f : Nat → Int, f = fun i => l2.getD i 0 := ⟨_, rfl⟩
      have e1 : ∀ i, l1.getD i 0 = f1 i := fun i => by rw [hf1]
      have e2 : ∀ i, l2.getD i 0 = f2 i := fun i => by rw [hf2]
      simp only [e1, e2] at HYES HNO HC1 HC2
      clear e1 e2 hf1 hf2
      go_enter Tryz.func140, Tryz.ntmps140
      go_wp2_with fail
      go_loopw [13] (fun vk wr => ∃ k : Nat, k ≤ n ∧ vk = .int .i64 k ∧ (∀ i, i < k → f1 i = f2 i) ∧ Below w.heap.size w wr) (fun vk _ => n - (intOf vk).toNat)
      case atStart => exact ⟨0, Nat.zero_le _, rfl, fun i hi => absurd hi (Nat.not_lt_zero _), Below.refl _ _⟩
      case round =>
        obtain ⟨k, hk, rfl, hall, hbw⟩ := hrel
        have HALL := Lib.hid hall; clear hall
        have HBW := Lib.hid hbw
        have hzr := hbw.size
        clear hbw
        by_cases hlt : k < n
        · have z1 := (HBW.out.cell (p := ⟨g1, o1 + k, none⟩) hb1).trans (HC1.out k hlt)
          have z2 := (HBW.out.cell (p := ⟨g2, o2 + k, none⟩) hb2).trans (HC2.out k hlt)
          have hgr1 : g1 < wr.heap.size := by omega
          have hgr2 : g2 < wr.heap.size := by omega
          have HN' := Lib.hid (HNO.out k hlt)
          have HA' : Hid (f1 k = f2 k → ∀ i, i < k + 1 → f1 i = f2 i) := Lib.hid fun e i hi => by
            by_cases c : i = k
            · subst c; exact e
            · exact HALL.out i (by omega)
          have hk0 : (0 : Int) ≤ (k : Int) := by omega
          have hk1 : (k : Int) < (n : Int) := by omega
          generalize f1 k = x at *
          generalize f2 k = y at *
          by_cases hxy : x = y
          · have HA2 := Lib.hid (HA'.out hxy)
            have hbx : (x != y) = false := by simpa using hxy
            have hbx2 : (x == y) = true := by simpa using hxy
            clear hxy
            go_wp2_with fail
            go_region
            all_goals
              go_wp2_with fail
              go_roundw
              case rel => exact ⟨k + 1, by omega, by go_num, HA2.out, by have hb := HBW.out; (repeat' (first | (with_reducible assumption) | (with_reducible exact Below.refl _ _) | (with_reducible refine below_drewN ?_ _) | (with_reducible refine Below.drew ?_) | (with_reducible refine Below.alloc ?_ ?_ _) | (with_reducible refine Below.setCell ?_ ?_ _) | (with_reducible refine Below.trans ?_ (Below.mono (by assumption) ?_)) | (with_reducible exact Nat.le_refl _) | (with_reducible assumption) | omega | (simp; omega) | (simp; done)))⟩
              case measure => (simp [intOf]; try omega)
          · have HF := Lib.hid (HN'.out hxy)
            have hbx : (x != y) = true := by simpa using hxy
            have hbx2 : (x == y) = false := by simpa using hxy
            clear hxy
            go_wp2_with fail
            go_region
            all_goals
              go_wp2
              go_ret
              exact ⟨ret_bool HF.out.symm, by have hb := HBW.out; (repeat' (first | (with_reducible assumption) | (with_reducible exact Below.refl _ _) | (with_reducible refine below_drewN ?_ _) | (with_reducible refine Below.drew ?_) | (with_reducible refine Below.alloc ?_ ?_ _) | (with_reducible refine Below.setCell ?_ ?_ _) | (with_reducible refine Below.trans ?_ (Below.mono (by assumption) ?_)) | (with_reducible exact Nat.le_refl _) | (with_reducible assumption) | omega | (simp; omega) | (simp; done)))⟩
        · obtain rfl : k = n := by omega
          have HF := Lib.hid (HYES.out HALL.out)
          go_wp2
          go_ret
          exact ⟨ret_bool HF.out.symm, HBW.out⟩
    · have HF := Lib.hid (HYES.out (fun i hi => by omega))
      have h10 : l1.length = 0 := by omega
      rw [← hl, h10]
      clear h1 h2 HYES HNO hl b1 h0 h10
      go_enter Tryz.func140, Tryz.ntmps140
      go_wp2_with fail
      go_loopw [13] (fun vk wr => vk = .int .i64 0 ∧ w = wr) (fun _ _ => 0)
      case atStart => exact ⟨rfl, rfl⟩
      case round =>
        obtain ⟨rfl, rfl⟩ := hrel
        go_wp2
        go_ret
        exact ⟨ret_bool HF.out.symm, Below.refl _ _⟩
  · have hd : decide (l1 = l2) = false := by
      rw [decide_eq_false_iff_not]
      intro e
      exact hl (by rw [e])
    rw [hd]
    have hne : ¬ (l1.length : Int) = (l2.length : Int) := by omega
    have hb : ((l1.length : Int) == (l2.length : Int)) = false := by simpa using hne
    clear h1 h2 hd hl
    generalize l1.length = n1 at *
    generalize l2.length = n2 at *
    go_enter Tryz.func140, Tryz.ntmps140
    go_wp2
    go_ret
    exact ⟨rfl, Below.refl _ _⟩
/-- Those that are none of a list's, up to one that is. -/
theorem least_at {T : List (List Int)} {l : List Int} (h : l ∈ T) : ∃ k, k < T.length ∧ T.getD k [] = l ∧ ∀ j, j < k → T.getD j [] ≠ l := by
  induction T with
  | nil => cases h
  | cons x T ih =>
    by_cases e : x = l
    · exact ⟨0, by simp, by simpa [List.getD] using e, fun j hj => absurd hj (Nat.not_lt_zero _)⟩
    · rcases List.mem_cons.1 h with h | h
      · exact absurd h.symm e
      · obtain ⟨k, hk, h1, h2⟩ := ih h
        refine ⟨k + 1, by simp; omega, by simpa [List.getD] using h1, fun j hj => ?_⟩
        match j with
        | 0 => simpa [List.getD] using e
        | j + 1 => simpa [List.getD] using h2 j (by omega)
theorem none_at {T : List (List Int)} {l : List Int} (h : ¬ l ∈ T) (k : Nat) (hk : k < T.length) : T.getD k [] ≠ l := fun e => h (by rw [← e]; exact getD_mem hk)
theorem spec_RankComplete_no0 (q : Int) (v : Value) (w : World) (h : few q = false) :
    Calls Tryz.prog 60 #[.int .i64 q, v] w fun e w' => e = .returned (.tuple #[.int .i64 0, .bool false]) ∧ Below w.heap.size w w' := by
  have HO := Lib.hid (fun w => cmFew_any q w)
  rw [h] at HO
  clear h
  go_enter Tryz.func60, Tryz.ntmps60
  go_wp2_with fail
  refine (HO.out _).mono ?_
  rintro e w1 ⟨rfl, hb1⟩
  have hz_hb1 := hb1.size; (try simp at hz_hb1)
  go_wp2_with fail
  go_ret2
  exact ⟨rfl, by (repeat' (first | (with_reducible assumption) | (with_reducible exact Below.refl _ _) | (with_reducible refine below_drewN ?_ _) | (with_reducible refine Below.drew ?_) | (with_reducible refine Below.alloc ?_ ?_ _) | (with_reducible refine Below.setCell ?_ ?_ _) | (with_reducible refine Below.trans ?_ (Below.mono (by assumption) ?_)) | (with_reducible exact Nat.le_refl _) | (with_reducible assumption) | omega | (simp; omega) | (simp; done)))⟩
theorem impl_RankComplete_no0 (q : Int) (v : Value) (w : World) (h : few q = false) :
    Calls Tryz.prog 58 #[.int .i64 q, v] w fun e w' => e = .returned (.tuple #[.int .i64 0, .bool false]) ∧ Below w.heap.size w w' := by
  have HO := Lib.hid (fun w => allTables_no q w h)
  clear h
  go_enter Tryz.func58, Tryz.ntmps58
  go_wp2_with fail
  refine (HO.out _).mono ?_
  rintro e w1 ⟨rfl, hb1⟩
  have hz_hb1 := hb1.size; (try simp at hz_hb1)
  go_wp2_with fail
  go_ret2
  exact ⟨rfl, by (repeat' (first | (with_reducible assumption) | (with_reducible exact Below.refl _ _) | (with_reducible refine below_drewN ?_ _) | (with_reducible refine Below.drew ?_) | (with_reducible refine Below.alloc ?_ ?_ _) | (with_reducible refine Below.setCell ?_ ?_ _) | (with_reducible refine Below.trans ?_ (Below.mono (by assumption) ?_)) | (with_reducible exact Nat.le_refl _) | (with_reducible assumption) | omega | (simp; omega) | (simp; done)))⟩
theorem spec_RankComplete_no1 (m : Nat) (v : Value) (l : List Int) (w : World) (h : isSz (m : Int) = true) (h8 : m ≤ 8) (hv : Sl w v l) (hl : l.length ≤ 1048576) (ht : (isSz (m : Int) && tabl (m : Int) l) = false) :
    Calls Tryz.prog 60 #[.int .i64 m, v] w fun e w' => e = .returned (.tuple #[.int .i64 0, .bool false]) ∧ Below w.heap.size w w' := by
  have HF := Lib.hid (fun w => cmFew_any (m : Int) w)
  have hf : few (m : Int) = true := by unfold few; rw [h, decide_eq_true (by omega)]; rfl
  rw [hf] at HF
  have HA := Lib.hid (fun w => cmAll_0 m w h h8)
  have HT := Lib.hid (fun w' (hb : Below w.heap.size w w') => by
    have := plTable_any (m : Int) v l w' (hv.below hb (Nat.le_refl _)) hl
    rw [ht] at this
    exact this)
  clear h hf hv ht HA
  go_enter Tryz.func60, Tryz.ntmps60
  go_wp2_with fail
  refine (HF.out _).mono ?_
  rintro e w1 ⟨rfl, hb1⟩
  have HB1 := Lib.hid hb1; clear hb1
  go_wp2_with fail
  refine (HT.out _ HB1.out).mono ?_
  rintro e w2 ⟨rfl, hb2⟩
  have HB2 : Hid (Below w.heap.size w w2) := Lib.hid (HB1.out.trans (hb2.mono HB1.out.size))
  clear hb2
  go_wp2
  go_ret2
  exact ⟨rfl, HB2.out⟩
set_option maxRecDepth 100000 in
set_option maxHeartbeats 4000000 in
theorem spec_RankComplete_yes (m : Nat) (v : Value) (l : List Int) (w : World) (h : isSz (m : Int) = true) (h8 : m ≤ 8) (hv : Sl w v l) (hl : l.length ≤ 1048576) (ht : (isSz (m : Int) && tabl (m : Int) l) = true) (k0 : Nat) (hk0 : k0 < (cmT m).length) (hat : (cmT m).getD k0 [] = l) (hlow : ∀ j, j < k0 → (cmT m).getD j [] ≠ l) :
    Calls Tryz.prog 60 #[.int .i64 m, v] w fun e w' => e = .returned (.tuple #[.int .i64 k0, .bool true]) ∧ Below w.heap.size w w' := by
  have hq := isSz_le (m : Int) h
  have HF := Lib.hid (fun w => cmFew_any (m : Int) w)
  have hf : few (m : Int) = true := by unfold few; rw [h, decide_eq_true (by omega)]; rfl
  rw [hf] at HF
  have HA := Lib.hid (fun w => cmAll_0 m w h h8)
  have HT := Lib.hid (fun w' (hb : Below w.heap.size w w') => by
    have := plTable_any (m : Int) v l w' (hv.below hb (Nat.le_refl _)) hl
    rw [ht] at this
    exact this)
  have HTL : Hid (∀ k, k < (cmT m).length → ((cmT m).getD k []).length ≤ 16) := Lib.hid fun k hk => by
    have := (cmT_mem (m := m) (by omega) (getD_mem hk)).2
    omega
  have HSM := Lib.hid (fun v' l' w' B (hr : Row w' B v' l') (hl' : l'.length ≤ 16) (hb : Below w.heap.size w w') => l1Same_any v' v l' l w' hr.sl (hv.below hb (Nat.le_refl _)) (by omega))
  have HAT := Lib.hid hat
  have HLOW := Lib.hid hlow
  obtain ⟨a0, c0, rfl⟩ := hv.form
  have hln : (cmT m).length ≤ 16777216 := lvl_few h8 (by omega)
  clear h hv hf ht hat hlow
  generalize cmT m = T at *
  obtain ⟨n, hn⟩ : ∃ n, T.length = n := ⟨_, rfl⟩
  have HNN := Lib.hid hn
  rw [hn] at HTL hln hk0
  clear hn
  go_enter Tryz.func60, Tryz.ntmps60
  go_wp2_with fail
  refine (HF.out _).mono ?_
  rintro e w0 ⟨rfl, hb0⟩
  have HB0 := Lib.hid hb0; clear hb0
  go_wp2_with fail
  refine (HT.out _ HB0.out).mono ?_
  rintro e w1 ⟨rfl, hb1⟩
  have HB1 : Hid (Below w.heap.size w w1) := Lib.hid (HB0.out.trans (hb1.mono HB0.out.size)); clear hb1
  go_wp2_with fail
  refine (HA.out _).mono ?_
  rintro e w2 ⟨v2, X, rfl, hr2, hb2⟩
  have HB2 : Hid (Below w.heap.size w w2) := Lib.hid (HB1.out.trans (hb2.mono HB1.out.size)); clear hb2
  have HT2 := Lib.hid hr2
  obtain ⟨a2, c2, hv2⟩ := hr2.slc
  have hz2 := HB2.out.size
  have HCX : Hid (∀ k, k < n → ∃ g, v2 = .slice (some ⟨g, 0, none⟩) n c2 ∧ g < w2.heap.size ∧ w2.cell? ⟨g, k, none⟩ = some (X k)) := Lib.hid fun k hk => by
    rcases hr2.how with ⟨_, e0⟩ | ⟨g2, c3, e2, _, hgl2, hcx⟩
    · have := HNN.out
      rw [e0] at this
      simp at this
      omega
    · rw [hv2] at e2
      cases e2
      have e3 := HNN.out
      exact ⟨g2, by rw [hv2, e3], hgl2, hcx k (by rw [e3]; exact hk)⟩
  rw [HNN.out] at hv2
  clear hr2
  subst hv2
  go_wp2_with fail
  go_loopw [21] (fun vk wr => ∃ k : Nat, k ≤ k0 ∧ vk = .int .i64 k ∧ Below w2.heap.size w2 wr) (fun vk _ => n - (intOf vk).toNat)
  case atStart => exact ⟨0, Nat.zero_le _, rfl, Below.refl _ _⟩
  case round =>
    obtain ⟨k, hk, rfl, hbw⟩ := hrel
    have HBW := Lib.hid hbw; clear hbw
    have hzr := HBW.out.size
    have hkn : k < n := by omega
    by_cases hkk : k < k0
    · have hm : ¬ T.getD k [] = l := HLOW.out k hkk
      obtain ⟨g, hg2, hgl, hc⟩ := HCX.out k hkn
      cases hg2
      have hcr := (HBW.out.cell (p := ⟨g, k, none⟩) hgl).trans hc
      have hgr : g < wr.heap.size := by omega
      have hk0' : (0 : Int) ≤ (k : Int) := by omega
      have hkn' : (k : Int) < (n : Int) := by omega
      have hin := HT2.out.inner k (by rw [HNN.out]; exact hkn)
      have HIN := Lib.hid (hin.below HBW.out)
      obtain ⟨a3, c3, hx3⟩ := hin.sl.form
      rw [hx3] at hcr HIN
      clear hin hc hx3
      have hd : decide (T.getD k [] = l) = false := by simpa using hm
      have HSMk := Lib.hid (HSM.out _ _ wr _ HIN.out (HTL.out k hkn) (HB2.out.trans (HBW.out.mono hz2)))
      rw [hd] at HSMk
      generalize (T.getD k []).length = L3 at *
      clear hd
      go_wp2_with fail
      refine HSMk.out.mono ?_
      rintro e w4 ⟨rfl, hb4⟩
      have HB4 : Hid (Below w2.heap.size w2 w4) := Lib.hid (HBW.out.trans (hb4.mono hzr))
      clear hb4
      go_wp2
      go_roundw
      case rel => exact ⟨k + 1, by omega, by go_num, HB4.out⟩
      case measure => (simp [intOf]; try omega)
    · obtain rfl : k = k0 := by omega
      have hm : T.getD k [] = l := HAT.out
      obtain ⟨g, hg2, hgl, hc⟩ := HCX.out k hkn
      cases hg2
      have hcr := (HBW.out.cell (p := ⟨g, k, none⟩) hgl).trans hc
      have hgr : g < wr.heap.size := by omega
      have hk0' : (0 : Int) ≤ (k : Int) := by omega
      have hkn' : (k : Int) < (n : Int) := by omega
      have hin := HT2.out.inner k (by rw [HNN.out]; exact hkn)
      have HIN := Lib.hid (hin.below HBW.out)
      obtain ⟨a3, c3, hx3⟩ := hin.sl.form
      rw [hx3] at hcr HIN
      clear hin hc hx3
      have hd : decide (T.getD k [] = l) = true := by simpa using hm
      have HSMk := Lib.hid (HSM.out _ _ wr _ HIN.out (HTL.out k hkn) (HB2.out.trans (HBW.out.mono hz2)))
      rw [hd] at HSMk
      generalize (T.getD k []).length = L3 at *
      clear hd
      go_wp2_with fail
      refine HSMk.out.mono ?_
      rintro e w4 ⟨rfl, hb4⟩
      have HB4 : Hid (Below w2.heap.size w2 w4) := Lib.hid (HBW.out.trans (hb4.mono hzr))
      clear hb4
      go_wp2
      go_ret2
      exact ⟨rfl, HB2.out.trans (HB4.out.mono hz2)⟩
set_option maxRecDepth 100000 in
set_option maxHeartbeats 4000000 in
theorem spec_RankComplete_none (m : Nat) (v : Value) (l : List Int) (w : World) (h : isSz (m : Int) = true) (h8 : m ≤ 8) (hv : Sl w v l) (hl : l.length ≤ 1048576) (ht : (isSz (m : Int) && tabl (m : Int) l) = true) (hno : ∀ j, j < (cmT m).length → (cmT m).getD j [] ≠ l) :
    Calls Tryz.prog 60 #[.int .i64 m, v] w fun e w' => e = .returned (.tuple #[.int .i64 0, .bool false]) ∧ Below w.heap.size w w' := by
  have hq := isSz_le (m : Int) h
  have HF := Lib.hid (fun w => cmFew_any (m : Int) w)
  have hf : few (m : Int) = true := by unfold few; rw [h, decide_eq_true (by omega)]; rfl
  rw [hf] at HF
  have HA := Lib.hid (fun w => cmAll_0 m w h h8)
  have HT := Lib.hid (fun w' (hb : Below w.heap.size w w') => by
    have := plTable_any (m : Int) v l w' (hv.below hb (Nat.le_refl _)) hl
    rw [ht] at this
    exact this)
  have HTL : Hid (∀ k, k < (cmT m).length → ((cmT m).getD k []).length ≤ 16) := Lib.hid fun k hk => by
    have := (cmT_mem (m := m) (by omega) (getD_mem hk)).2
    omega
  have HSM := Lib.hid (fun v' l' w' B (hr : Row w' B v' l') (hl' : l'.length ≤ 16) (hb : Below w.heap.size w w') => l1Same_any v' v l' l w' hr.sl (hv.below hb (Nat.le_refl _)) (by omega))
  have HNO := Lib.hid hno
  obtain ⟨a0, c0, rfl⟩ := hv.form
  have hln : (cmT m).length ≤ 16777216 := lvl_few h8 (by omega)
  clear h hv hf ht hno
  generalize cmT m = T at *
  obtain ⟨n, hn⟩ : ∃ n, T.length = n := ⟨_, rfl⟩
  have HNN := Lib.hid hn
  rw [hn] at HTL hln HNO
  clear hn
  go_enter Tryz.func60, Tryz.ntmps60
  go_wp2_with fail
  refine (HF.out _).mono ?_
  rintro e w0 ⟨rfl, hb0⟩
  have HB0 := Lib.hid hb0; clear hb0
  go_wp2_with fail
  refine (HT.out _ HB0.out).mono ?_
  rintro e w1 ⟨rfl, hb1⟩
  have HB1 : Hid (Below w.heap.size w w1) := Lib.hid (HB0.out.trans (hb1.mono HB0.out.size)); clear hb1
  go_wp2_with fail
  refine (HA.out _).mono ?_
  rintro e w2 ⟨v2, X, rfl, hr2, hb2⟩
  have HB2 : Hid (Below w.heap.size w w2) := Lib.hid (HB1.out.trans (hb2.mono HB1.out.size)); clear hb2
  have HT2 := Lib.hid hr2
  obtain ⟨a2, c2, hv2⟩ := hr2.slc
  have hz2 := HB2.out.size
  have HCX : Hid (∀ k, k < n → ∃ g, v2 = .slice (some ⟨g, 0, none⟩) n c2 ∧ g < w2.heap.size ∧ w2.cell? ⟨g, k, none⟩ = some (X k)) := Lib.hid fun k hk => by
    rcases hr2.how with ⟨_, e0⟩ | ⟨g2, c3, e2, _, hgl2, hcx⟩
    · have := HNN.out
      rw [e0] at this
      simp at this
      omega
    · rw [hv2] at e2
      cases e2
      have e3 := HNN.out
      exact ⟨g2, by rw [hv2, e3], hgl2, hcx k (by rw [e3]; exact hk)⟩
  rw [HNN.out] at hv2
  clear hr2
  subst hv2
  go_wp2_with fail
  go_loopw [21] (fun vk wr => ∃ k : Nat, k ≤ n ∧ vk = .int .i64 k ∧ Below w2.heap.size w2 wr) (fun vk _ => n - (intOf vk).toNat)
  case atStart => exact ⟨0, Nat.zero_le _, rfl, Below.refl _ _⟩
  case round =>
    obtain ⟨k, hk, rfl, hbw⟩ := hrel
    have HBW := Lib.hid hbw; clear hbw
    have hzr := HBW.out.size
    by_cases hkn : k < n
    · have hm : ¬ T.getD k [] = l := HNO.out k hkn
      obtain ⟨g, hg2, hgl, hc⟩ := HCX.out k hkn
      cases hg2
      have hcr := (HBW.out.cell (p := ⟨g, k, none⟩) hgl).trans hc
      have hgr : g < wr.heap.size := by omega
      have hk0' : (0 : Int) ≤ (k : Int) := by omega
      have hkn' : (k : Int) < (n : Int) := by omega
      have hin := HT2.out.inner k (by rw [HNN.out]; exact hkn)
      have HIN := Lib.hid (hin.below HBW.out)
      obtain ⟨a3, c3, hx3⟩ := hin.sl.form
      rw [hx3] at hcr HIN
      clear hin hc hx3
      have hd : decide (T.getD k [] = l) = false := by simpa using hm
      have HSMk := Lib.hid (HSM.out _ _ wr _ HIN.out (HTL.out k hkn) (HB2.out.trans (HBW.out.mono hz2)))
      rw [hd] at HSMk
      generalize (T.getD k []).length = L3 at *
      clear hd
      go_wp2_with fail
      refine HSMk.out.mono ?_
      rintro e w4 ⟨rfl, hb4⟩
      have HB4 : Hid (Below w2.heap.size w2 w4) := Lib.hid (HBW.out.trans (hb4.mono hzr))
      clear hb4
      go_wp2
      go_roundw
      case rel => exact ⟨k + 1, by omega, by go_num, HB4.out⟩
      case measure => (simp [intOf]; try omega)
    · obtain rfl : k = n := by omega
      go_wp2
      go_ret2
      exact ⟨rfl, HB2.out.trans (HBW.out.mono hz2)⟩
set_option maxRecDepth 100000 in
set_option maxHeartbeats 4000000 in
theorem impl_RankComplete_yes (m : Nat) (v : Value) (l : List Int) (w : World) (h : isSz (m : Int) = true) (h8 : m ≤ 8) (hv : Sl w v l) (k0 : Nat) (hk0 : k0 < (cmT m).length) (hat : (cmT m).getD k0 [] = l) (hlow : ∀ j, j < k0 → (cmT m).getD j [] ≠ l) :
    Calls Tryz.prog 58 #[.int .i64 m, v] w fun e w' => e = .returned (.tuple #[.int .i64 k0, .bool true]) ∧ Below w.heap.size w w' := by
  have hq := isSz_le (m : Int) h
  have HA := Lib.hid (fun w => allTables_yes m w h h8)
  have HNU := Lib.hid (fun k (hk : k < (cmT m).length) x w' (hx : HE w' m x ((cmT m).getD k [])) => by
    obtain ⟨hbg, hlm⟩ := cmT_mem (m := m) (by omega) (getD_mem hk)
    exact numbersH m x _ w' h hx hbg (by omega))
  have HTL : Hid (∀ k, k < (cmT m).length → ((cmT m).getD k []).length ≤ 16) := Lib.hid fun k hk => by
    have := (cmT_mem (m := m) (by omega) (getD_mem hk)).2
    omega
  have HSM := Lib.hid (fun v' l' w' B (hr : Row w' B v' l') (hl' : l'.length ≤ 16) (hb : Below w.heap.size w w') => slEqual_any v' v l' l w' hr.sl (hv.below hb (Nat.le_refl _)) (by omega))
  have HAT := Lib.hid hat
  have HLOW := Lib.hid hlow
  obtain ⟨a0, c0, rfl⟩ := hv.form
  have hln : (cmT m).length ≤ 16777216 := lvl_few h8 (by omega)
  clear h hv hat hlow
  generalize cmT m = T at *
  obtain ⟨n, hn⟩ : ∃ n, T.length = n := ⟨_, rfl⟩
  have HNN := Lib.hid hn
  rw [hn] at HTL hln HNU hk0
  clear hn
  go_enter Tryz.func58, Tryz.ntmps58
  go_wp2_with fail
  refine (HA.out _).mono ?_
  rintro e w2 ⟨v2, X, rfl, hr2, hb2⟩
  have HB2 := Lib.hid hb2; clear hb2
  have HT2 := Lib.hid hr2
  obtain ⟨a2, c2, hv2⟩ := hr2.slc
  have hz2 := HB2.out.size
  have HCX : Hid (∀ k, k < n → ∃ g, v2 = .slice (some ⟨g, 0, none⟩) n c2 ∧ g < w2.heap.size ∧ w2.cell? ⟨g, k, none⟩ = some (X k)) := Lib.hid fun k hk => by
    rcases hr2.how with ⟨_, e0⟩ | ⟨g2, c3, e2, _, hgl2, hcx⟩
    · have := HNN.out
      rw [e0] at this
      simp at this
      omega
    · rw [hv2] at e2
      cases e2
      have e3 := HNN.out
      exact ⟨g2, by rw [hv2, e3], hgl2, hcx k (by rw [e3]; exact hk)⟩
  rw [HNN.out] at hv2
  clear hr2
  subst hv2
  go_wp2_with fail
  go_loopw [19] (fun vk wr => ∃ k : Nat, k ≤ k0 ∧ vk = .int .i64 k ∧ Below w2.heap.size w2 wr) (fun vk _ => n - (intOf vk).toNat)
  case atStart => exact ⟨0, Nat.zero_le _, rfl, Below.refl _ _⟩
  case round =>
    obtain ⟨k, hk, rfl, hbw⟩ := hrel
    have HBW := Lib.hid hbw; clear hbw
    have hzr := HBW.out.size
    have hkn : k < n := by omega
    by_cases hkk : k < k0
    · have hm : ¬ T.getD k [] = l := HLOW.out k hkk
      obtain ⟨g, hg2, hgl, hc⟩ := HCX.out k hkn
      cases hg2
      have hcr := (HBW.out.cell (p := ⟨g, k, none⟩) hgl).trans hc
      have hgr : g < wr.heap.size := by omega
      have hk0' : (0 : Int) ≤ (k : Int) := by omega
      have hkn' : (k : Int) < (n : Int) := by omega
      have hin := HT2.out.inner k (by rw [HNN.out]; exact hkn)
      have hin2 := hin.below HBW.out (Nat.le_refl _)
      have HIN := Lib.hid hin2
      obtain ⟨a3, c3, hx3⟩ : ∃ a c, X k = .slice a (T.getD k []).length c := by obtain ⟨g, cap, cur, e, _⟩ := hin; exact ⟨_, _, e⟩
      rw [hx3] at hcr HIN
      clear hin hin2 hc hx3
      have hd : decide (T.getD k [] = l) = false := by simpa using hm
      have HNk := Lib.hid (HNU.out k hkn _ _ HIN.out)
      have HSMk : Hid (∀ v' w' B, Row w' B v' (T.getD k []) → Below w.heap.size w w' → Calls Tryz.prog 140 #[v', .slice a0 l.length c0] w' fun e w'' => e = .returned (.bool false) ∧ Below w'.heap.size w' w'') := Lib.hid fun v' w' B hr hb => by
        have := HSM.out v' _ w' B hr (HTL.out k hkn) hb
        rw [hd] at this
        exact this
      generalize (T.getD k []).length = L3 at *
      clear hd
      go_wp2_with fail
      refine HNk.out.mono ?_
      rintro e w3 ⟨v3, rfl, hr3, hb3⟩
      have HR3 := Lib.hid hr3
      have HB3 : Hid (Below w2.heap.size w2 w3) := Lib.hid (HBW.out.trans (hb3.mono hzr))
      clear hr3 hb3
      go_wp2_with fail
      refine (HSMk.out _ _ _ HR3.out (HB2.out.trans (HB3.out.mono hz2))).mono ?_
      rintro e w4 ⟨rfl, hb4⟩
      have HB4 : Hid (Below w2.heap.size w2 w4) := Lib.hid (HB3.out.trans (hb4.mono HB3.out.size))
      clear hb4
      go_wp2
      go_roundw
      case rel => exact ⟨k + 1, by omega, by go_num, HB4.out⟩
      case measure => (simp [intOf]; try omega)
    · obtain rfl : k = k0 := by omega
      have hm : T.getD k [] = l := HAT.out
      obtain ⟨g, hg2, hgl, hc⟩ := HCX.out k hkn
      cases hg2
      have hcr := (HBW.out.cell (p := ⟨g, k, none⟩) hgl).trans hc
      have hgr : g < wr.heap.size := by omega
      have hk0' : (0 : Int) ≤ (k : Int) := by omega
      have hkn' : (k : Int) < (n : Int) := by omega
      have hin := HT2.out.inner k (by rw [HNN.out]; exact hkn)
      have hin2 := hin.below HBW.out (Nat.le_refl _)
      have HIN := Lib.hid hin2
      obtain ⟨a3, c3, hx3⟩ : ∃ a c, X k = .slice a (T.getD k []).length c := by obtain ⟨g, cap, cur, e, _⟩ := hin; exact ⟨_, _, e⟩
      rw [hx3] at hcr HIN
      clear hin hin2 hc hx3
      have hd : decide (T.getD k [] = l) = true := by simpa using hm
      have HNk := Lib.hid (HNU.out k hkn _ _ HIN.out)
      have HSMk : Hid (∀ v' w' B, Row w' B v' (T.getD k []) → Below w.heap.size w w' → Calls Tryz.prog 140 #[v', .slice a0 l.length c0] w' fun e w'' => e = .returned (.bool true) ∧ Below w'.heap.size w' w'') := Lib.hid fun v' w' B hr hb => by
        have := HSM.out v' _ w' B hr (HTL.out k hkn) hb
        rw [hd] at this
        exact this
      generalize (T.getD k []).length = L3 at *
      clear hd
      go_wp2_with fail
      refine HNk.out.mono ?_
      rintro e w3 ⟨v3, rfl, hr3, hb3⟩
      have HR3 := Lib.hid hr3
      have HB3 : Hid (Below w2.heap.size w2 w3) := Lib.hid (HBW.out.trans (hb3.mono hzr))
      clear hr3 hb3
      go_wp2_with fail
      refine (HSMk.out _ _ _ HR3.out (HB2.out.trans (HB3.out.mono hz2))).mono ?_
      rintro e w4 ⟨rfl, hb4⟩
      have HB4 : Hid (Below w2.heap.size w2 w4) := Lib.hid (HB3.out.trans (hb4.mono HB3.out.size))
      clear hb4
      go_wp2
      go_ret2
      exact ⟨rfl, HB2.out.trans (HB4.out.mono hz2)⟩
set_option maxRecDepth 100000 in
set_option maxHeartbeats 4000000 in
theorem impl_RankComplete_none (m : Nat) (v : Value) (l : List Int) (w : World) (h : isSz (m : Int) = true) (h8 : m ≤ 8) (hv : Sl w v l) (hno : ∀ j, j < (cmT m).length → (cmT m).getD j [] ≠ l) :
    Calls Tryz.prog 58 #[.int .i64 m, v] w fun e w' => e = .returned (.tuple #[.int .i64 0, .bool false]) ∧ Below w.heap.size w w' := by
  have hq := isSz_le (m : Int) h
  have HA := Lib.hid (fun w => allTables_yes m w h h8)
  have HNU := Lib.hid (fun k (hk : k < (cmT m).length) x w' (hx : HE w' m x ((cmT m).getD k [])) => by
    obtain ⟨hbg, hlm⟩ := cmT_mem (m := m) (by omega) (getD_mem hk)
    exact numbersH m x _ w' h hx hbg (by omega))
  have HTL : Hid (∀ k, k < (cmT m).length → ((cmT m).getD k []).length ≤ 16) := Lib.hid fun k hk => by
    have := (cmT_mem (m := m) (by omega) (getD_mem hk)).2
    omega
  have HSM := Lib.hid (fun v' l' w' B (hr : Row w' B v' l') (hl' : l'.length ≤ 16) (hb : Below w.heap.size w w') => slEqual_any v' v l' l w' hr.sl (hv.below hb (Nat.le_refl _)) (by omega))
  have HNO := Lib.hid hno
  obtain ⟨a0, c0, rfl⟩ := hv.form
  have hln : (cmT m).length ≤ 16777216 := lvl_few h8 (by omega)
  clear h hv hno
  generalize cmT m = T at *
  obtain ⟨n, hn⟩ : ∃ n, T.length = n := ⟨_, rfl⟩
  have HNN := Lib.hid hn
  rw [hn] at HTL hln HNU HNO
  clear hn
  go_enter Tryz.func58, Tryz.ntmps58
  go_wp2_with fail
  refine (HA.out _).mono ?_
  rintro e w2 ⟨v2, X, rfl, hr2, hb2⟩
  have HB2 := Lib.hid hb2; clear hb2
  have HT2 := Lib.hid hr2
  obtain ⟨a2, c2, hv2⟩ := hr2.slc
  have hz2 := HB2.out.size
  have HCX : Hid (∀ k, k < n → ∃ g, v2 = .slice (some ⟨g, 0, none⟩) n c2 ∧ g < w2.heap.size ∧ w2.cell? ⟨g, k, none⟩ = some (X k)) := Lib.hid fun k hk => by
    rcases hr2.how with ⟨_, e0⟩ | ⟨g2, c3, e2, _, hgl2, hcx⟩
    · have := HNN.out
      rw [e0] at this
      simp at this
      omega
    · rw [hv2] at e2
      cases e2
      have e3 := HNN.out
      exact ⟨g2, by rw [hv2, e3], hgl2, hcx k (by rw [e3]; exact hk)⟩
  rw [HNN.out] at hv2
  clear hr2
  subst hv2
  go_wp2_with fail
  go_loopw [19] (fun vk wr => ∃ k : Nat, k ≤ n ∧ vk = .int .i64 k ∧ Below w2.heap.size w2 wr) (fun vk _ => n - (intOf vk).toNat)
  case atStart => exact ⟨0, Nat.zero_le _, rfl, Below.refl _ _⟩
  case round =>
    obtain ⟨k, hk, rfl, hbw⟩ := hrel
    have HBW := Lib.hid hbw; clear hbw
    have hzr := HBW.out.size
    by_cases hkn : k < n
    · have hm : ¬ T.getD k [] = l := HNO.out k hkn
      obtain ⟨g, hg2, hgl, hc⟩ := HCX.out k hkn
      cases hg2
      have hcr := (HBW.out.cell (p := ⟨g, k, none⟩) hgl).trans hc
      have hgr : g < wr.heap.size := by omega
      have hk0' : (0 : Int) ≤ (k : Int) := by omega
      have hkn' : (k : Int) < (n : Int) := by omega
      have hin := HT2.out.inner k (by rw [HNN.out]; exact hkn)
      have hin2 := hin.below HBW.out (Nat.le_refl _)
      have HIN := Lib.hid hin2
      obtain ⟨a3, c3, hx3⟩ : ∃ a c, X k = .slice a (T.getD k []).length c := by obtain ⟨g, cap, cur, e, _⟩ := hin; exact ⟨_, _, e⟩
      rw [hx3] at hcr HIN
      clear hin hin2 hc hx3
      have hd : decide (T.getD k [] = l) = false := by simpa using hm
      have HNk := Lib.hid (HNU.out k hkn _ _ HIN.out)
      have HSMk : Hid (∀ v' w' B, Row w' B v' (T.getD k []) → Below w.heap.size w w' → Calls Tryz.prog 140 #[v', .slice a0 l.length c0] w' fun e w'' => e = .returned (.bool false) ∧ Below w'.heap.size w' w'') := Lib.hid fun v' w' B hr hb => by
        have := HSM.out v' _ w' B hr (HTL.out k hkn) hb
        rw [hd] at this
        exact this
      generalize (T.getD k []).length = L3 at *
      clear hd
      go_wp2_with fail
      refine HNk.out.mono ?_
      rintro e w3 ⟨v3, rfl, hr3, hb3⟩
      have HR3 := Lib.hid hr3
      have HB3 : Hid (Below w2.heap.size w2 w3) := Lib.hid (HBW.out.trans (hb3.mono hzr))
      clear hr3 hb3
      go_wp2_with fail
      refine (HSMk.out _ _ _ HR3.out (HB2.out.trans (HB3.out.mono hz2))).mono ?_
      rintro e w4 ⟨rfl, hb4⟩
      have HB4 : Hid (Below w2.heap.size w2 w4) := Lib.hid (HB3.out.trans (hb4.mono HB3.out.size))
      clear hb4
      go_wp2
      go_roundw
      case rel => exact ⟨k + 1, by omega, by go_num, HB4.out⟩
      case measure => (simp [intOf]; try omega)
    · obtain rfl : k = n := by omega
      go_wp2
      go_ret2
      exact ⟨rfl, HB2.out.trans (HBW.out.mono hz2)⟩
theorem tabl_mem {m : Nat} {l : List Int} (hm : 2 ≤ m) (h : l ∈ cmT m) : tabl (m : Int) l = true := by
  obtain ⟨hb, hl⟩ := cmT_mem hm h
  rw [tabl_is (by omega)]
  rw [List.all_eq_true]
  intro x hx
  obtain ⟨i, hi, rfl⟩ := List.getElem_of_mem hx
  have := hb.els i
  simp only [List.getD, List.getElem?_eq_getElem hi, Option.getD_some] at this
  simp [inF, this.1, this.2]
theorem key_RankComplete (q : Int) (l_t : List Int) (b_t : l_t.length ≤ 1048576) : ∃ (r : Int) (o : Bool), (∀ (w : World) (v_t : Value) (_ : Sl w v_t l_t), Calls Tryz.prog 60 #[.int .i64 q, v_t] w fun e w' => e = .returned (.tuple #[.int .i64 r, .bool o]) ∧ Below w.heap.size w w') ∧
      (∀ (w : World) (v_t : Value) (_ : Sl w v_t l_t), Calls Tryz.prog 58 #[.int .i64 q, v_t] w fun e w' => e = .returned (.tuple #[.int .i64 r, .bool o]) ∧ Below w.heap.size w w') := by
  cases h : few q with
  | false => exact ⟨0, false, fun w v _ => spec_RankComplete_no0 q v w h, fun w v _ => impl_RankComplete_no0 q v w h⟩
  | true =>
    obtain ⟨m, rfl, hs, h8⟩ := few_nat h
    have hq := isSz_le (m : Int) hs
    by_cases hx : l_t ∈ cmT m
    · obtain ⟨k, hk, h1, h2⟩ := least_at hx
      have ht : (isSz (m : Int) && tabl (m : Int) l_t) = true := by rw [hs, tabl_mem (by omega) hx]; rfl
      exact ⟨(k : Int), true, fun w v hv => spec_RankComplete_yes m v l_t w hs h8 hv b_t ht k hk h1 h2, fun w v hv => impl_RankComplete_yes m v l_t w hs h8 hv k hk h1 h2⟩
    · refine ⟨0, false, fun w v hv => ?_, fun w v hv => impl_RankComplete_none m v l_t w hs h8 hv (none_at hx)⟩
      cases ht : isSz (m : Int) && tabl (m : Int) l_t with
      | false => exact spec_RankComplete_no1 m v l_t w hs h8 hv b_t ht
      | true => exact spec_RankComplete_none m v l_t w hs h8 hv b_t ht (none_at hx)
end Go.Proofs.YtapglncgicfjnabGreat
