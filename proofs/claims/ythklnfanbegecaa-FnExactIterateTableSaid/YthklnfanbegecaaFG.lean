/- spec.l1Put by a contract. -/
import Derived.Test.YthklnfanbegecaaFC
import Derived.Laws.AppendOwnNone
namespace Go.Proofs.Ythklnfanbegecaa
open Go.RowKit
theorem Row.lit0 (w : World) : Row (w.alloc (.cells #[] 3)) w.heap.size (.slice (some ⟨w.heap.size, 0, none⟩) 0 0) [] := by
  have := World.ownsRow_lit (base := w.heap.size) (e := 3) (size := 1) w #[] 0 (Nat.le_refl _) (by unfold maxLen; omega) rfl
  exact this
set_option maxHeartbeats 1000000 in
theorem l1Put_nil (x : Int) (w : World) :
    Calls Try.prog 58 #[.slice none 0 0, .int .i64 x] w fun e w' => ∃ v, e = .returned v ∧ Row w' w.heap.size v (ins [] x) ∧ Below w.heap.size w w' := by
  obtain ⟨i0, hi, iz0, iz1, iz2⟩ := info_parts Try.infoI
  go_enter Try.func58, Try.ntmps58
  go_wp2_with fail
  refine wp_loop_rounds 1 ?_
  rw [rounds_succ]
  have H0 := Lib.hid (Row.lit0 w)
  go_wp2_with (first | (at_builtin; refine wpList_append_own_none rfl _ _ 22 rfl w.heap.size 3 i0 1 Try.underlying22 hi _ _ _ rfl H0.out rfl ?_) | (at_builtin; refine wpList_append_own _ rfl _ _ 22 rfl w.heap.size 3 i0 (.int .i64 0) 1 8 Try.underlying22 hi iz0 iz1 iz2 rfl (by decide) _ _ _ rfl (World.ownsRow.alloc H0.out _) ⟨w.heap.size + 1, 0, none⟩ 1 1 [.int .i64 x] rfl rfl ?c1 ?c2 ?c3 ?c4 ?c5 ?_))
  case c1 =>
    have hc := cell_one_new (w.alloc (.cells #[] 3)) (.int .i64 x) 3
    simpa using hc
  case c2 => intro u hu; simp at hu; subst hu; rfl
  case c3 => unfold maxLen; simp
  case c4 => simp
  case c5 => simp; omega
  intro v' w3 hown hgrow _
  have HR3 := Lib.hid (Row.appended (l := []) hown)
  have hb : Below w.heap.size w ((w.alloc (.cells #[] 3)).alloc (.cells #[.int .i64 x] 3)) := by (repeat' (first | (with_reducible assumption) | (with_reducible exact Below.refl _ _) | (with_reducible refine below_drewN ?_ _) | (with_reducible refine Below.drew ?_) | (with_reducible refine Below.alloc ?_ ?_ _) | (with_reducible refine Below.setCell ?_ ?_ _) | (with_reducible refine Below.trans ?_ (Below.mono (by assumption) ?_)) | (with_reducible exact Nat.le_refl _) | (with_reducible assumption) | omega | (simp; omega) | (simp; done)))
  have HB3 := Lib.hid (hb.grown hgrow (by simp; omega) (fun g hg => (H0.out.lt g hg).1))
  clear hown hgrow hb
  go_wp2_with (at_builtin; refine wpList_append_own_none rfl _ _ 22 rfl w.heap.size 3 i0 1 Try.underlying22 hi _ _ _ rfl HR3.out rfl ?_)
  go_ret
  exact ⟨_, rfl, HR3.out, HB3.out⟩
theorem Row.cap {w : World} {B g n cap : Nat} {l : List Int} (h : Row w B (.slice (some ⟨g, 0, none⟩) n cap) l) : n ≤ cap := by
  rcases h.2 with ⟨h', _⟩ | ⟨g', cap', cur, h', _, hg, hc, _⟩
  · simp at h'
  · simp at h'
    obtain ⟨rfl, h2, rfl⟩ := h'
    omega
theorem take_get (l : List Int) (k j : Nat) (u : Value) (h : ((l.take k).map (Value.int .i64))[j]? = some u) : j < k ∧ j < l.length ∧ u = .int .i64 (l.getD j 0) := by
  rw [List.getElem?_map] at h
  obtain ⟨x, hx, rfl⟩ := Option.map_eq_some_iff.1 h
  have hj := (List.getElem?_eq_some_iff.1 hx).1
  rw [List.length_take] at hj
  refine ⟨by omega, by omega, ?_⟩
  rw [List.getElem?_take, if_pos (by omega)] at hx
  simp [List.getD, hx]
theorem drop_get (l : List Int) (k j : Nat) (u : Value) (h : ((l.drop k).map (Value.int .i64))[j]? = some u) : k + j < l.length ∧ u = .int .i64 (l.getD (k + j) 0) := by
  rw [List.getElem?_map] at h
  obtain ⟨x, hx, rfl⟩ := Option.map_eq_some_iff.1 h
  have hj := (List.getElem?_eq_some_iff.1 hx).1
  rw [List.length_drop] at hj
  refine ⟨by omega, ?_⟩
  rw [List.getElem?_drop] at hx
  simp [List.getD, hx]
theorem add_off (g o j : Nat) : (⟨g, o, none⟩ : Addr).add j = ⟨g, o + j, none⟩ := by by_cases h0 : j = 0 <;> simp [Addr.add, h0]
theorem Row.app {w : World} {B n m : Nat} {v' : Value} {l r : List Int} (hl : l.length = n) (hr : r.length = m) (h : w.ownsRow B 3 1 v' (n + m) (l.map (Value.int .i64) ++ r.map (Value.int .i64))) : Row w B v' (l ++ r) := by
  unfold Row
  rw [List.length_append, List.map_append, hl, hr]
  exact h
theorem ints_one (l : List Int) : ∀ u ∈ l.map (Value.int .i64), u.oneCell' = true := fun u hu => by
  obtain ⟨x, _, rfl⟩ := List.mem_map.1 hu
  rfl
theorem Row.of {w : World} {B n : Nat} {v : Value} {l : List Int} {xs : List Value} (h : w.ownsRow B 3 1 v n xs) (hn : n = l.length) (hx : xs = l.map (Value.int .i64)) : Row w B v l := by
  subst hn hx
  exact h
theorem take_news {w : World} {g n j : Nat} {l : List Int} (hn : l.length = n) (hc : ∀ i, i < n → w.cell? ⟨g, i, none⟩ = some (.int .i64 (l.getD i 0))) : ∀ i u, ((l.take j).map (Value.int .i64))[i]? = some u → w.cell? ((⟨g, 0, none⟩ : Addr).add i) = some u := by
  intro i u hiu
  obtain ⟨h1, h2, rfl⟩ := take_get _ _ _ _ hiu
  rw [add_off, Nat.zero_add]
  exact hc i (by omega)
theorem drop_news {w : World} {g n j : Nat} {l : List Int} (hn : l.length = n) (hc : ∀ i, i < n → w.cell? ⟨g, i, none⟩ = some (.int .i64 (l.getD i 0))) : ∀ i u, ((l.drop j).map (Value.int .i64))[i]? = some u → w.cell? ((⟨g, j, none⟩ : Addr).add i) = some u := by
  intro i u hiu
  obtain ⟨h1, rfl⟩ := drop_get _ _ _ _ hiu
  rw [add_off]
  exact hc _ (by omega)

set_option maxHeartbeats 2000000 in
theorem l1Put_any (v : Value) (l : List Int) (x : Int) (B : Nat) (w : World) (h : Row w B v l) (h0 : 0 < l.length) (hl : l.length ≤ 1000) (hB : B ≤ w.heap.size) :
    Calls Try.prog 58 #[v, .int .i64 x] w fun e w' => ∃ v', e = .returned v' ∧ Row w' B v' (ins l x) ∧ Below w.heap.size w w' := by
  obtain ⟨i0, hi, iz0, iz1, iz2⟩ := info_parts Try.infoI
  obtain ⟨g, cap, rfl, hgB, hgl⟩ := h.form h0
  have hcap := h.cap
  have HC : Hid (∀ j, j < l.length → w.cell? ⟨g, j, none⟩ = some (.int .i64 (l.getD j 0))) := Lib.hid (fun j hj => h.cell j hj)
  have hk := cnt_le l x
  have HLT := Lib.hid (cnt_lt l x)
  have HAT := Lib.hid (cnt_at l x)
  have hins : ins l x = if cnt l x < l.length ∧ l.getD (cnt l x) 0 = x then l else l.take (cnt l x) ++ x :: l.drop (cnt l x) := rfl
  have HR := Lib.hid h; clear h
  generalize hke : cnt l x = k at *
  clear hke
  generalize hn : l.length = n at *
  have HN := Lib.hid hn; clear hn
  have HINS := Lib.hid hins; clear hins
  go_enter Try.func58, Try.ntmps58
  go_wp2_with fail
  go_loop [5] (fun vk => ∃ j : Nat, j ≤ k ∧ vk = .int .i64 j) (fun vk => k - (intOf vk).toNat)
  case atStart => exact ⟨0, Nat.zero_le _, rfl⟩
  case round =>
    obtain ⟨j, hj, rfl⟩ := hrel
    by_cases hlt : j < k
    · have hc := HC.out j (by omega)
      have ht := HLT.out j hlt
      generalize l.getD j 0 = u at *
      go_wp2
      go_round
      case rel => exact ⟨j + 1, by omega, by go_num⟩
      case measure => simp [intOf]; omega
    · obtain rfl : j = k := by omega
      by_cases hkn : j < n
      · have hc := HC.out j hkn
        have ht := HAT.out hkn
        have hin : Hid (l.drop j = l.getD j 0 :: l.drop (j + 1)) := Lib.hid (drop_getD l j (by rw [HN.out]; exact hkn))
        generalize hu : l.getD j 0 = u at *
        by_cases he : u = x
        · subst he
          have ht2 : ¬ u < u := by omega
          have hq : (u == u) = true := by simp
          go_wp2
          go_ret
          refine ⟨_, rfl, ?_, Below.refl _ _⟩
          rw [HINS.out, if_pos ⟨hkn, trivial⟩]
          exact HR.out
        · have hq : (u == x) = false := by simpa using he
          have hn1 : ¬ cap = j := by omega
          have hn2 : ¬ j = cap := by omega
          have H0 : Hid ((w.alloc (.cells #[] 3)).ownsRow w.heap.size 3 1 (.slice (some ⟨w.heap.size, 0, none⟩) 0 0) 0 []) := Lib.hid (Row.lit0 w)
          go_wp2_with (at_builtin; refine wpList_append_own _ rfl _ _ 22 rfl w.heap.size 3 i0 (.int .i64 0) 1 8 Try.underlying22 hi iz0 iz1 iz2 rfl (by decide) _ _ _ rfl H0.out ⟨g, 0, none⟩ j cap ((l.take j).map (Value.int .i64)) rfl (by rw [List.length_map, List.length_take, HN.out]; omega) (take_news HN.out (fun i hi => (World.cell?_alloc_past _ _ _ hgl).trans (HC.out i hi))) (ints_one _) (by unfold maxLen; omega) (by omega) (by simp) ?_)
          intro v1 w1 hown hgrow _
          have HL1 : Hid ((l.take j).length = j) := Lib.hid (by rw [List.length_take, HN.out]; omega)
          have HR1 := Lib.hid (Row.of (l := l.take j) hown (by rw [List.length_take, HN.out]; omega) (by simp [List.map_take]))
          have HB1 : Hid (Below w.heap.size w w1) := Lib.hid (Below.grown (by (repeat' (first | (with_reducible assumption) | (with_reducible exact Below.refl _ _) | (with_reducible refine below_drewN ?_ _) | (with_reducible refine Below.drew ?_) | (with_reducible refine Below.alloc ?_ ?_ _) | (with_reducible refine Below.setCell ?_ ?_ _) | (with_reducible refine Below.trans ?_ (Below.mono (by assumption) ?_)) | (with_reducible exact Nat.le_refl _) | (with_reducible assumption) | omega | (simp; omega) | (simp; done)))) hgrow (by simp) (fun g hg => (H0.out.lt g hg).1))
          have hz1 := HB1.out.size
          clear hown hgrow
          go_wp2_with (at_builtin; refine wpList_append_own _ rfl _ _ 22 rfl w.heap.size 3 i0 (.int .i64 0) 1 8 Try.underlying22 hi iz0 iz1 iz2 rfl (by decide) _ _ _ rfl (World.ownsRow.alloc HR1.out _) ⟨w1.heap.size, 0, none⟩ 1 1 [.int .i64 x] rfl rfl (cell_one_new _ _ _) (by intro u hu; simp at hu; subst hu; rfl) (by have := HL1.out; unfold maxLen; omega) (by have := HL1.out; omega) (by simp; omega) ?_)
          intro v2 w2 hown hgrow _
          have HL2 : Hid ((l.take j ++ [x]).length = j + 1) := Lib.hid (by rw [List.length_append, List.length_take, HN.out]; simp; omega)
          have HR2 := Lib.hid (Row.of (l := l.take j ++ [x]) hown (by rw [HL2.out]; have := HN.out; omega) (by simp [List.map_take]))
          have hb : Below w.heap.size w (w1.alloc (.cells #[.int .i64 x] 3)) := by have hb1 := HB1.out; (repeat' (first | (with_reducible assumption) | (with_reducible exact Below.refl _ _) | (with_reducible refine below_drewN ?_ _) | (with_reducible refine Below.drew ?_) | (with_reducible refine Below.alloc ?_ ?_ _) | (with_reducible refine Below.setCell ?_ ?_ _) | (with_reducible refine Below.trans ?_ (Below.mono (by assumption) ?_)) | (with_reducible exact Nat.le_refl _) | (with_reducible assumption) | omega | (simp; omega) | (simp; done)))
          have HB2 := Lib.hid (hb.grown hgrow (by simp; omega) (fun g hg => (HR1.out.lt g hg).1))
          have hz2 := HB2.out.size
          clear hown hgrow hb
          go_wp2_with (at_builtin; refine wpList_append_own _ rfl _ _ 22 rfl w.heap.size 3 i0 (.int .i64 0) 1 8 Try.underlying22 hi iz0 iz1 iz2 rfl (by decide) _ _ _ rfl HR2.out ⟨g, j, none⟩ (n - j) (cap - j) ((l.drop j).map (Value.int .i64)) rfl (by rw [List.length_map, List.length_drop, HN.out]; have := HN.out; omega) (drop_news HN.out (fun i hi => (HB2.out.cell (p := ⟨g, i, none⟩) hgl).trans (HC.out i hi))) (ints_one _) (by have := HL2.out; unfold maxLen; omega) (by have := HL2.out; omega) hz2 ?_)
          intro v3 w3 hown hgrow _
          have HR3 := Lib.hid (Row.of (l := l.take j ++ [x] ++ l.drop j) hown (by rw [List.length_append, HL2.out, List.length_drop, HN.out]; have := HN.out; omega) (by simp [List.map_take, List.map_drop]))
          have HB3 := Lib.hid (HB2.out.grown hgrow hz2 (fun g hg => (HR2.out.lt g hg).1))
          clear hown hgrow
          go_wp2
          go_ret
          refine ⟨_, rfl, ?_, HB3.out⟩
          rw [HINS.out, if_neg (by intro h; exact he h.2)]
          have hr := HR3.out.mono hB
          simpa using hr
      · obtain rfl : n = j := by omega
        by_cases hcn : n = cap
        · obtain rfl := hcn
          have H0 : Hid ((w.alloc (.cells #[] 3)).ownsRow w.heap.size 3 1 (.slice (some ⟨w.heap.size, 0, none⟩) 0 0) 0 []) := Lib.hid (Row.lit0 w)
          go_wp2_with (at_builtin; refine wpList_append_own _ rfl _ _ 22 rfl w.heap.size 3 i0 (.int .i64 0) 1 8 Try.underlying22 hi iz0 iz1 iz2 rfl (by decide) _ _ _ rfl H0.out ⟨g, 0, none⟩ n _ ((l.take n).map (Value.int .i64)) rfl (by have := HN.out; rw [List.length_map, List.length_take]; omega) (take_news HN.out (fun i hi => (World.cell?_alloc_past _ _ _ hgl).trans (HC.out i hi))) (ints_one _) (by unfold maxLen; omega) (by omega) (by simp) ?_)
          intro v1 w1 hown hgrow _
          have HL1 : Hid ((l.take n).length = n) := Lib.hid (by have := HN.out; rw [List.length_take]; omega)
          have HR1 := Lib.hid (Row.of (l := l.take n) hown (by rw [HL1.out]) (by simp [List.map_take]))
          have HB1 : Hid (Below w.heap.size w w1) := Lib.hid (Below.grown (by (repeat' (first | (with_reducible assumption) | (with_reducible exact Below.refl _ _) | (with_reducible refine below_drewN ?_ _) | (with_reducible refine Below.drew ?_) | (with_reducible refine Below.alloc ?_ ?_ _) | (with_reducible refine Below.setCell ?_ ?_ _) | (with_reducible refine Below.trans ?_ (Below.mono (by assumption) ?_)) | (with_reducible exact Nat.le_refl _) | (with_reducible assumption) | omega | (simp; omega) | (simp; done)))) hgrow (by simp) (fun g hg => (H0.out.lt g hg).1))
          have hz1 := HB1.out.size
          clear hown hgrow
          go_wp2_with (at_builtin; refine wpList_append_own _ rfl _ _ 22 rfl w.heap.size 3 i0 (.int .i64 0) 1 8 Try.underlying22 hi iz0 iz1 iz2 rfl (by decide) _ _ _ rfl (World.ownsRow.alloc HR1.out _) ⟨w1.heap.size, 0, none⟩ 1 1 [.int .i64 x] rfl rfl (cell_one_new _ _ _) (by intro u hu; simp at hu; subst hu; rfl) (by have := HL1.out; unfold maxLen; omega) (by have := HL1.out; omega) (by simp; omega) ?_)
          intro v2 w2 hown hgrow _
          have HL2 : Hid ((l.take n ++ [x]).length = n + 1) := Lib.hid (by have := HN.out; rw [List.length_append, List.length_take]; simp; omega)
          have HR2 := Lib.hid (Row.of (l := l.take n ++ [x]) hown (by rw [HL2.out]; have := HN.out; omega) (by simp [List.map_take]))
          have hb : Below w.heap.size w (w1.alloc (.cells #[.int .i64 x] 3)) := by have hb1 := HB1.out; (repeat' (first | (with_reducible assumption) | (with_reducible exact Below.refl _ _) | (with_reducible refine below_drewN ?_ _) | (with_reducible refine Below.drew ?_) | (with_reducible refine Below.alloc ?_ ?_ _) | (with_reducible refine Below.setCell ?_ ?_ _) | (with_reducible refine Below.trans ?_ (Below.mono (by assumption) ?_)) | (with_reducible exact Nat.le_refl _) | (with_reducible assumption) | omega | (simp; omega) | (simp; done)))
          have HB2 := Lib.hid (hb.grown hgrow (by simp; omega) (fun g hg => (HR1.out.lt g hg).1))
          have hz2 := HB2.out.size
          clear hown hgrow hb
          go_wp2_with (at_builtin; refine wpList_append_own _ rfl _ _ 22 rfl w.heap.size 3 i0 (.int .i64 0) 1 8 Try.underlying22 hi iz0 iz1 iz2 rfl (by decide) _ _ _ rfl HR2.out _ 0 _ [] rfl rfl (by intro _ _ h; cases h) (by intro _ h; cases h) (by have := HL2.out; unfold maxLen; omega) (by have := HL2.out; omega) hz2 ?_)
          intro v3 w3 hown hgrow _
          have HR3 := Lib.hid (Row.of (l := l.take n ++ [x]) hown (by rw [HL2.out]; have := HN.out; omega) (by simp [List.map_take]))
          have HB3 := Lib.hid (HB2.out.grown hgrow hz2 (fun g hg => (HR2.out.lt g hg).1))
          clear hown hgrow
          go_wp2
          go_ret
          refine ⟨_, rfl, ?_, HB3.out⟩
          rw [HINS.out, if_neg (by omega), List.drop_of_length_le (by rw [HN.out]; exact Nat.le_refl _)]
          exact HR3.out.mono hB
        · have hn1 : ¬ cap = n := by omega
          have H0 : Hid ((w.alloc (.cells #[] 3)).ownsRow w.heap.size 3 1 (.slice (some ⟨w.heap.size, 0, none⟩) 0 0) 0 []) := Lib.hid (Row.lit0 w)
          go_wp2_with (at_builtin; refine wpList_append_own _ rfl _ _ 22 rfl w.heap.size 3 i0 (.int .i64 0) 1 8 Try.underlying22 hi iz0 iz1 iz2 rfl (by decide) _ _ _ rfl H0.out ⟨g, 0, none⟩ n _ ((l.take n).map (Value.int .i64)) rfl (by have := HN.out; rw [List.length_map, List.length_take]; omega) (take_news HN.out (fun i hi => (World.cell?_alloc_past _ _ _ hgl).trans (HC.out i hi))) (ints_one _) (by unfold maxLen; omega) (by omega) (by simp) ?_)
          intro v1 w1 hown hgrow _
          have HL1 : Hid ((l.take n).length = n) := Lib.hid (by have := HN.out; rw [List.length_take]; omega)
          have HR1 := Lib.hid (Row.of (l := l.take n) hown (by rw [HL1.out]) (by simp [List.map_take]))
          have HB1 : Hid (Below w.heap.size w w1) := Lib.hid (Below.grown (by (repeat' (first | (with_reducible assumption) | (with_reducible exact Below.refl _ _) | (with_reducible refine below_drewN ?_ _) | (with_reducible refine Below.drew ?_) | (with_reducible refine Below.alloc ?_ ?_ _) | (with_reducible refine Below.setCell ?_ ?_ _) | (with_reducible refine Below.trans ?_ (Below.mono (by assumption) ?_)) | (with_reducible exact Nat.le_refl _) | (with_reducible assumption) | omega | (simp; omega) | (simp; done)))) hgrow (by simp) (fun g hg => (H0.out.lt g hg).1))
          have hz1 := HB1.out.size
          clear hown hgrow
          go_wp2_with (at_builtin; refine wpList_append_own _ rfl _ _ 22 rfl w.heap.size 3 i0 (.int .i64 0) 1 8 Try.underlying22 hi iz0 iz1 iz2 rfl (by decide) _ _ _ rfl (World.ownsRow.alloc HR1.out _) ⟨w1.heap.size, 0, none⟩ 1 1 [.int .i64 x] rfl rfl (cell_one_new _ _ _) (by intro u hu; simp at hu; subst hu; rfl) (by have := HL1.out; unfold maxLen; omega) (by have := HL1.out; omega) (by simp; omega) ?_)
          intro v2 w2 hown hgrow _
          have HL2 : Hid ((l.take n ++ [x]).length = n + 1) := Lib.hid (by have := HN.out; rw [List.length_append, List.length_take]; simp; omega)
          have HR2 := Lib.hid (Row.of (l := l.take n ++ [x]) hown (by rw [HL2.out]; have := HN.out; omega) (by simp [List.map_take]))
          have hb : Below w.heap.size w (w1.alloc (.cells #[.int .i64 x] 3)) := by have hb1 := HB1.out; (repeat' (first | (with_reducible assumption) | (with_reducible exact Below.refl _ _) | (with_reducible refine below_drewN ?_ _) | (with_reducible refine Below.drew ?_) | (with_reducible refine Below.alloc ?_ ?_ _) | (with_reducible refine Below.setCell ?_ ?_ _) | (with_reducible refine Below.trans ?_ (Below.mono (by assumption) ?_)) | (with_reducible exact Nat.le_refl _) | (with_reducible assumption) | omega | (simp; omega) | (simp; done)))
          have HB2 := Lib.hid (hb.grown hgrow (by simp; omega) (fun g hg => (HR1.out.lt g hg).1))
          have hz2 := HB2.out.size
          clear hown hgrow hb
          go_wp2_with (at_builtin; refine wpList_append_own _ rfl _ _ 22 rfl w.heap.size 3 i0 (.int .i64 0) 1 8 Try.underlying22 hi iz0 iz1 iz2 rfl (by decide) _ _ _ rfl HR2.out _ 0 _ [] rfl rfl (by intro _ _ h; cases h) (by intro _ h; cases h) (by have := HL2.out; unfold maxLen; omega) (by have := HL2.out; omega) hz2 ?_)
          intro v3 w3 hown hgrow _
          have HR3 := Lib.hid (Row.of (l := l.take n ++ [x]) hown (by rw [HL2.out]; have := HN.out; omega) (by simp [List.map_take]))
          have HB3 := Lib.hid (HB2.out.grown hgrow hz2 (fun g hg => (HR2.out.lt g hg).1))
          clear hown hgrow
          go_wp2
          go_ret
          refine ⟨_, rfl, ?_, HB3.out⟩
          rw [HINS.out, if_neg (by omega), List.drop_of_length_le (by rw [HN.out]; exact Nat.le_refl _)]
          exact HR3.out.mono hB
end Go.Proofs.Ythklnfanbegecaa
