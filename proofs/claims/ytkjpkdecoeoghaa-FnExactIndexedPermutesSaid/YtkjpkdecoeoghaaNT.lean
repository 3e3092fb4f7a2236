/- impl.roots.stayApart by a contract. -/
import Derived.Test.YtkjpkdecoeoghaaNS
import Derived.Test.YtkjpkdecoeoghaaNQ
namespace Go.Proofs.Ytkjpkdecoeoghaa
open Go.RowKit
/-- What a map makes of a list is other than 0, apart, and apart from what was met. -/
def apart (u : Int → Int) : List Int → List Int → Bool
  | [], _ => true
  | y :: l, met => !(decide (u y = 0) || met.contains (u y)) && apart u l (met ++ [u y])
theorem apart_end (u : Int → Int) (l met : List Int) (n : Nat) (h : l.length ≤ n) : apart u (l.drop n) met = true := by
  rw [List.drop_eq_nil_of_le h]
  rfl
theorem apart_step (u : Int → Int) (l met : List Int) (i : Nat) (h : i < l.length) : apart u (l.drop i) met = (!(decide (u (l.getD i 0) = 0) || met.contains (u (l.getD i 0))) && apart u (l.drop (i + 1)) (met ++ [u (l.getD i 0)])) := by
  rw [List.drop_eq_getElem_cons h, show l.getD i 0 = l[i] by rw [List.getD, List.getElem?_eq_getElem h]; rfl]
  rfl
theorem own_below {w w' : World} {B C T s n : Nat} {v : Value} {xs : List Value} (h : w.ownsRow B T s v n xs) (hb : Below C w w') (hC : w.heap.size ≤ C) : w'.ownsRow B T s v n xs := by
  obtain ⟨hl, ⟨rfl, h0⟩ | ⟨g, cap, cur, rfl, h1, hh, h2⟩⟩ := h
  · exact ⟨hl, .inl ⟨rfl, h0⟩⟩
  · exact ⟨hl, .inr ⟨g, cap, cur, rfl, h1, (hb.block _ (by have := (Array.getElem?_eq_some_iff.1 hh).1; omega)).trans hh, h2⟩⟩
theorem own_form {w : World} {B n : Nat} {v : Value} {q : Int} {f : Nat → Int} (h : w.ownsRow B 42 7 v n (elc q f n)) (hw : 0 < w.heap.size) : ∃ a g cap, v = .slice a n cap ∧ (0 < n → a = some ⟨g, 0, none⟩) ∧ g < w.heap.size ∧ Els w g q f n := by
  have h' := h
  obtain ⟨_, ⟨rfl, rfl⟩ | ⟨g, cap, cur, rfl, _, hh, _⟩⟩ := h
  · exact ⟨none, 0, 0, rfl, fun h => by omega, hw, fun j hj => by omega⟩
  · refine ⟨some ⟨g, 0, none⟩, g, cap, rfl, fun _ => rfl, (Array.getElem?_eq_some_iff.1 hh).1, fun j hj => ?_⟩
    have hc : ∀ b, b < 7 → w.cell? ⟨g, j * 7 + b, none⟩ = (el7 q (f j))[b]? := fun b hb => by
      rw [World.ownsRow.cellAt h' _ (by omega), elc_get q f n j b hj hb]
    exact ⟨hc 0 (by omega), hc 1 (by omega), hc 2 (by omega), hc 3 (by omega), hc 4 (by omega), hc 5 (by omega), hc 6 (by omega)⟩
theorem own_app {w : World} {B : Nat} {v : Value} {q x : Int} {l : List Int} (h : w.ownsRow B 42 7 v (l.length + 1) (elc q (fun i => l.getD i 0) l.length ++ el7 q x)) : w.ownsRow B 42 7 v (l ++ [x]).length (elc q (fun i => (l ++ [x]).getD i 0) (l ++ [x]).length) := by
  have e : elc q (fun i => (l ++ [x]).getD i 0) (l ++ [x]).length = elc q (fun i => l.getD i 0) l.length ++ el7 q x := by
    rw [List.length_append, List.length_singleton, elc]
    refine congr (congrArg _ (elc_congr fun i hi => ?_)) ?_
    · simp [List.getD, List.getElem?_append_left hi]
    · simp [List.getD]
  rw [e, List.length_append, List.length_singleton]
  exact h
theorem app_el {m : Nat} {l : List Int} {x : Int} (h : isSz (m : Int) = true) (hl : ∀ i, El (m : Int) (l.getD i 0)) (hx : El (m : Int) x) (i : Nat) : El (m : Int) ((l ++ [x]).getD i 0) := by
  by_cases h1 : i < l.length
  · have := hl i
    rw [List.getD] at this
    rwa [List.getD, List.getElem?_append_left h1]
  · by_cases h2 : i = l.length
    · subst h2; simpa [List.getD] using hx
    · rw [List.getD, List.getElem?_eq_none (by rw [List.length_append, List.length_singleton]; omega)]
      exact El.zero h
theorem els_o {w : World} {g : Nat} {q : Int} {f : Nat → Int} {n : Nat} (h : ElO w g q f n) (j : Nat) (hj : j < n) : w.cell? ⟨g, 1 + j * 7, none⟩ = some (.int .i64 q) ∧ w.cell? ⟨g, 1 + j * 7 + 1, none⟩ = some (.int .i64 (pr q)) ∧ w.cell? ⟨g, 1 + j * 7 + 2, none⟩ = some (.int .i64 (pl q)) ∧ w.cell? ⟨g, 1 + j * 7 + 3, none⟩ = some (.int .i64 (dg q (f j) 0)) ∧ w.cell? ⟨g, 1 + j * 7 + 4, none⟩ = some (.int .i64 (dg q (f j) 1)) ∧ w.cell? ⟨g, 1 + j * 7 + 5, none⟩ = some (.int .i64 (dg q (f j) 2)) ∧ w.cell? ⟨g, 1 + j * 7 + 6, none⟩ = some (.int .i64 (dg q (f j) 3)) := h j hj
set_option maxRecDepth 100000 in
set_option maxHeartbeats 4000000 in
/-- impl.roots.stayApart. -/
theorem stayApartE (m K1 K2 K3 : Nat) (cs : Array Value) (l : List Int) (u : Int → Int) (w : World) (h : isSz (m : Int) = true) (hr : RV cs (m : Int) l) (hl : l.length ≤ 15) (hu : ∀ i, i < l.length → El (m : Int) (u (l.getD i 0)))
    (HC0 : ∀ i, i < l.length → ∀ w', Below w.heap.size w w' → Calls Try.prog 44 #[elE (m : Int) (l.getD i 0), .pointer (some ⟨K1, 0, none⟩), .pointer (some ⟨K2, 0, none⟩), .pointer (some ⟨K3, 0, none⟩)] w' fun e w'' => e = .returned (elE (m : Int) (u (l.getD i 0))) ∧ Below w'.heap.size w' w'') :
    Calls Try.prog 47 #[.agg cs, .func (.func 44) #[] #[.pointer (some ⟨K1, 0, none⟩), .pointer (some ⟨K2, 0, none⟩), .pointer (some ⟨K3, 0, none⟩)]] w fun e w' => e = .returned (.bool (apart u l [])) ∧ Below w.heap.size w w' := by
  obtain ⟨i0, hi, iz0, iz1, iz2⟩ := info_parts Try.infoE
  have hh := heap_alloc_new w (.cells cs 46 (0, 0))
  have hone := hr.all
  have hsz := hr.size
  have hu75 := Try.underlying46
  have hi75 : (Try.prog.info? 46).map (·.size) = some cs.size := by rw [hsz]; kernel_rfl
  have HL := Lib.hid (fun w => rootsList cs (m : Int) l w hr hl)
  have HC := Lib.hid HC0; clear HC0
  have HU := Lib.hid hu; clear hu
  have HZ := Lib.hid (fun i w (hi : i < l.length) => isZeroE (m : Int) (u (l.getD i 0)) w h (HU.out i hi).1 (HU.out i hi).2)
  have HCO := Lib.hid (fun g cap (met : List Int) x w hx hf hg he hn a ha => containsE m g cap met x w h hx hf hg he hn a ha)
  have HAE := Lib.hid (fun (l : List Int) x hl hx => app_el (m := m) (l := l) (x := x) h hl hx)
  have HE := Lib.hid (apart_end u l)
  have HS := Lib.hid (apart_step u l)
  have hz0 : ∀ i, El (m : Int) (([] : List Int).getD i 0) := fun i => by simpa [List.getD] using El.zero h
  clear hr h
  go_enter Try.func47, Try.ntmps47
  go_wp2_with (first | refine wpList_load_row rfl 46 _ rfl w.heap.size rfl 46 cs (0, 0) _ hh hu75 rfl hi75 ?_ | fail)
  refine (HL.out _).mono ?_
  rintro e w2 ⟨g, rfl, hg2, hgl2, he2, hb2⟩
  have HEO := Lib.hid he2; clear he2
  have HB2 : Hid (Below w.heap.size w w2) := Lib.hid (by (repeat' (first | (with_reducible assumption) | (with_reducible exact Below.refl _ _) | (with_reducible refine below_drewN ?_ _) | (with_reducible refine Below.drew ?_) | (with_reducible refine Below.alloc ?_ ?_ _) | (with_reducible refine Below.setCell ?_ ?_ _) | (with_reducible refine Below.trans ?_ (Below.mono (by assumption) ?_)) | (with_reducible exact Nat.le_refl _) | (with_reducible assumption) | omega | (simp; omega) | (simp; done))))
  have hz2 := HB2.out.size
  have hzz2 := hb2.size
  simp at hzz2
  clear hb2 hh
  obtain ⟨n, hn⟩ : ∃ x, l.length = x := ⟨_, rfl⟩
  rw [hn]
  go_wp2_with fail
  go_loopw [5, 12] (fun vo vi wr => ∃ (i : Nat) (met : List Int), i ≤ n ∧ vi = .int .i64 i ∧ met.length = i ∧ (∀ j, El (m : Int) (met.getD j 0)) ∧ apart u (l.drop i) met = apart u l [] ∧ wr.ownsRow w2.heap.size 42 7 vo met.length (elc (m : Int) (fun j => met.getD j 0) met.length) ∧ Below w2.heap.size w2 wr) (fun _ vi _ => n - (intOf vi).toNat)
  case atStart => exact ⟨0, [], Nat.zero_le _, rfl, rfl, hz0, rfl, ⟨rfl, .inl ⟨rfl, rfl⟩⟩, Below.refl _ _⟩
  case round =>
    obtain ⟨i, met, hi', rfl, rfl, hme, hap, hown, hbw⟩ := hrel
    have hzw := hbw.size
    by_cases hlt : met.length < n
    · obtain ⟨c0, c1, c2, c3, c4, c5, c6⟩ := els_o (HEO.out.below hbw hgl2) met.length (by omega)
      have HC' := Lib.hid (HC.out met.length (by omega))
      have HZ' := Lib.hid (fun w => HZ.out met.length w (by omega))
      have hx := HU.out met.length (by omega)
      have hst := HS.out met met.length (by omega)
      rw [hap] at hst
      have HMY := HAE.out met _ hme hx
      generalize u (l.getD met.length 0) = x at *
      obtain ⟨y, hy⟩ : ∃ y, l.getD met.length 0 = y := ⟨_, rfl⟩
      simp only [hy] at c3 c4 c5 c6
      rw [hy] at HC'
      clear hy
      obtain ⟨a, g', cap, rfl, ha, hg', he'⟩ := own_form hown (by omega)
      have HCO' := Lib.hid (fun w' (hb : Below wr.heap.size wr w') => HCO.out g' cap met x w' hx hme (by have := hb.size; omega) (he'.below hb hg') (by omega) a ha)
      have HST := Lib.hid hst; clear hst hap
      have HMYY := Lib.hid HMY; clear HMY
      have HOWN := Lib.hid hown; clear hown
      have HBW := Lib.hid hbw; clear hbw
      have HCALL : Hid (∀ o, Below w.heap.size w (wr.alloc o)) := Lib.hid (fun o => by have hbw := HBW.out; have hb2 := HB2.out; (repeat' (first | (with_reducible assumption) | (with_reducible exact Below.refl _ _) | (with_reducible refine below_drewN ?_ _) | (with_reducible refine Below.drew ?_) | (with_reducible refine Below.alloc ?_ ?_ _) | (with_reducible refine Below.setCell ?_ ?_ _) | (with_reducible refine Below.trans ?_ (Below.mono (by assumption) ?_)) | (with_reducible exact Nat.le_refl _) | (with_reducible assumption) | omega | (simp; omega) | (simp; done))))
      clear hme hx he' ha
      cases hz : decide (x = 0) with
      | true =>
        have HANS : Hid (apart u l [] = false) := Lib.hid (by rw [HST.out, hz]; rfl)
        rw [hz] at HZ'
        clear hz
        go_wp2_with fail
        refine (HC'.out _ (HCALL.out _)).mono ?_
        rintro e w5 ⟨rfl, hb5⟩
        obtain ⟨hc5, hf5⟩ := bcell hb5; have hz5 := hb5.size; (try simp at hz5); have HB5 := Lib.hid hb5; clear hb5
        go_wp2_with fail
        refine (HZ'.out _).mono ?_
        rintro e w6 ⟨rfl, hb6⟩
        obtain ⟨hc6, hf6⟩ := bcell hb6; have hz6 := hb6.size; (try simp at hz6); have HB6 := Lib.hid hb6; clear hb6
        go_wp2_with fail
        go_ret
        have hb2 := HB2.out
        have hbw := HBW.out
        have hb5 := HB5.out
        have hb6 := HB6.out
        exact ⟨ret_bool (by rw [HANS.out]), by (repeat' (first | (with_reducible assumption) | (with_reducible exact Below.refl _ _) | (with_reducible refine below_drewN ?_ _) | (with_reducible refine Below.drew ?_) | (with_reducible refine Below.alloc ?_ ?_ _) | (with_reducible refine Below.setCell ?_ ?_ _) | (with_reducible refine Below.trans ?_ (Below.mono (by assumption) ?_)) | (with_reducible exact Nat.le_refl _) | (with_reducible assumption) | omega | (simp; omega) | (simp; done)))⟩
      | false =>
        rw [hz] at HZ'
        have HZF := Lib.hid hz; clear hz
        cases hk : met.contains x with
        | true =>
          have HANS : Hid (apart u l [] = false) := Lib.hid (by rw [HST.out, HZF.out, hk]; rfl)
          rw [hk] at HCO'
          clear hk
          go_wp2_with fail
          refine (HC'.out _ (HCALL.out _)).mono ?_
          rintro e w5 ⟨rfl, hb5⟩
          obtain ⟨hc5, hf5⟩ := bcell hb5; have hz5 := hb5.size; (try simp at hz5); have HB5 := Lib.hid hb5; clear hb5
          go_wp2_with fail
          refine (HZ'.out _).mono ?_
          rintro e w6 ⟨rfl, hb6⟩
          obtain ⟨p0, p1, p2, p3, p4, p5, p6, pf, pl'⟩ := seven ((hb6.block _ (by simp)).trans (heap_alloc_new w5 (eblk (m : Int) x)))
          obtain ⟨hc6, hf6⟩ := bcell hb6; have hz6 := hb6.size; (try simp at hz6); have HB6 := Lib.hid hb6; clear hb6
          have HBW6 : Hid (Below wr.heap.size wr w6) := Lib.hid (by have hb5 := HB5.out; have hb6 := HB6.out; (repeat' (first | (with_reducible assumption) | (with_reducible exact Below.refl _ _) | (with_reducible refine below_drewN ?_ _) | (with_reducible refine Below.drew ?_) | (with_reducible refine Below.alloc ?_ ?_ _) | (with_reducible refine Below.setCell ?_ ?_ _) | (with_reducible refine Below.trans ?_ (Below.mono (by assumption) ?_)) | (with_reducible exact Nat.le_refl _) | (with_reducible assumption) | omega | (simp; omega) | (simp; done))))
          go_wp2_with fail
          refine (HCO'.out _ HBW6.out).mono ?_
          rintro e w7 ⟨rfl, hb7⟩
          obtain ⟨hc7, hf7⟩ := bcell hb7; have hz7 := hb7.size; (try simp at hz7); have HB7 := Lib.hid hb7; clear hb7
          go_wp2_with fail
          go_ret
          have hb2 := HB2.out
          have hbw := HBW.out
          have hb6 := HBW6.out
          have hb7 := HB7.out
          exact ⟨ret_bool (by rw [HANS.out]), by (repeat' (first | (with_reducible assumption) | (with_reducible exact Below.refl _ _) | (with_reducible refine below_drewN ?_ _) | (with_reducible refine Below.drew ?_) | (with_reducible refine Below.alloc ?_ ?_ _) | (with_reducible refine Below.setCell ?_ ?_ _) | (with_reducible refine Below.trans ?_ (Below.mono (by assumption) ?_)) | (with_reducible exact Nat.le_refl _) | (with_reducible assumption) | omega | (simp; omega) | (simp; done)))⟩
        | false =>
          have HANS : Hid (apart u (l.drop (met.length + 1)) (met ++ [x]) = apart u l []) := Lib.hid (by rw [HST.out, HZF.out, hk]; simp)
          rw [hk] at HCO'
          clear hk
          go_wp2_with fail
          refine (HC'.out _ (HCALL.out _)).mono ?_
          rintro e w5 ⟨rfl, hb5⟩
          obtain ⟨hc5, hf5⟩ := bcell hb5; have hz5 := hb5.size; (try simp at hz5); have HB5 := Lib.hid hb5; clear hb5
          go_wp2_with fail
          refine (HZ'.out _).mono ?_
          rintro e w6 ⟨rfl, hb6⟩
          obtain ⟨p0, p1, p2, p3, p4, p5, p6, pf, pl'⟩ := seven ((hb6.block _ (by simp)).trans (heap_alloc_new w5 (eblk (m : Int) x)))
          obtain ⟨hc6, hf6⟩ := bcell hb6; have hz6 := hb6.size; (try simp at hz6); have HB6 := Lib.hid hb6; clear hb6
          have HBW6 : Hid (Below wr.heap.size wr w6) := Lib.hid (by have hb5 := HB5.out; have hb6 := HB6.out; (repeat' (first | (with_reducible assumption) | (with_reducible exact Below.refl _ _) | (with_reducible refine below_drewN ?_ _) | (with_reducible refine Below.drew ?_) | (with_reducible refine Below.alloc ?_ ?_ _) | (with_reducible refine Below.setCell ?_ ?_ _) | (with_reducible refine Below.trans ?_ (Below.mono (by assumption) ?_)) | (with_reducible exact Nat.le_refl _) | (with_reducible assumption) | omega | (simp; omega) | (simp; done))))
          go_wp2_with fail
          refine (HCO'.out _ HBW6.out).mono ?_
          rintro e w7 ⟨rfl, hb7⟩
          obtain ⟨q0, q1, q2, q3, q4, q5, q6, qf, ql'⟩ := seven ((hb7.block _ pl').trans ((HB6.out.block _ (by simp)).trans (heap_alloc_new w5 (eblk (m : Int) x))))
          obtain ⟨hc7, hf7⟩ := bcell hb7; have hz7 := hb7.size; (try simp at hz7); have HB7 := Lib.hid hb7; clear hb7
          have HBW7 : Hid (Below wr.heap.size wr w7) := Lib.hid (by have hb6 := HBW6.out; have hb7 := HB7.out; (repeat' (first | (with_reducible assumption) | (with_reducible exact Below.refl _ _) | (with_reducible refine below_drewN ?_ _) | (with_reducible refine Below.drew ?_) | (with_reducible refine Below.alloc ?_ ?_ _) | (with_reducible refine Below.setCell ?_ ?_ _) | (with_reducible refine Below.trans ?_ (Below.mono (by assumption) ?_)) | (with_reducible exact Nat.le_refl _) | (with_reducible assumption) | omega | (simp; omega) | (simp; done))))
          go_wp2_with (first | (at_builtin; refine wpList_append_own _ rfl _ _ 43 rfl w2.heap.size 42 i0 (.agg #[.int .i64 0, .int .i64 0, .int .i64 0, .int .i64 0, .int .i64 0, .int .i64 0, .int .i64 0]) 7 56 Try.underlying43 hi iz0 iz1 iz2 rfl (by decide) _ _ _ rfl (World.ownsRow.alloc (own_below HOWN.out HBW7.out (Nat.le_refl _)) _) ⟨w7.heap.size, 0, none⟩ 1 1 (el7 (m : Int) x) rfl rfl ?c1 ?c2 ?c3 ?c4 ?c5 ?_) | fail)
          case c1 => exact blk_news (heap_alloc_new _ _)
          case c2 => exact el7_one _ _
          case c3 => unfold maxLen; omega
          case c4 => omega
          case c5 => simp; omega
          intro v' w8 hown' hgrow _
          have HO8 := Lib.hid (own_app hown')
          have hb : Below w2.heap.size w2 (w7.alloc (eblk (m : Int) x)) := by have hbw := HBW.out; have hb7 := HBW7.out; (repeat' (first | (with_reducible assumption) | (with_reducible exact Below.refl _ _) | (with_reducible refine below_drewN ?_ _) | (with_reducible refine Below.drew ?_) | (with_reducible refine Below.alloc ?_ ?_ _) | (with_reducible refine Below.setCell ?_ ?_ _) | (with_reducible refine Below.trans ?_ (Below.mono (by assumption) ?_)) | (with_reducible exact Nat.le_refl _) | (with_reducible assumption) | omega | (simp; omega) | (simp; done)))
          have HB8 := Lib.hid (hb.grown hgrow (by simp; omega) (fun g hg => (World.ownsRow.lt HOWN.out g hg).1))
          clear hown' hgrow hb
          go_wp2
          go_roundw
          case rel => exact ⟨met.length + 1, met ++ [x], by omega, by go_num, by simp, HMYY.out, HANS.out, HO8.out, HB8.out⟩
          case measure => simp [intOf]; omega
    · obtain rfl : n = met.length := by omega
      have HAP := Lib.hid (hap.symm.trans (HE.out met met.length (by omega)))
      have HBW := Lib.hid hbw; clear hbw hown hap hme
      go_wp2
      go_ret
      have hb2 := HB2.out
      have hbw := HBW.out
      exact ⟨ret_bool (by rw [HAP.out]), by (repeat' (first | (with_reducible assumption) | (with_reducible exact Below.refl _ _) | (with_reducible refine below_drewN ?_ _) | (with_reducible refine Below.drew ?_) | (with_reducible refine Below.alloc ?_ ?_ _) | (with_reducible refine Below.setCell ?_ ?_ _) | (with_reducible refine Below.trans ?_ (Below.mono (by assumption) ?_)) | (with_reducible exact Nat.le_refl _) | (with_reducible assumption) | omega | (simp; omega) | (simp; done)))⟩
end Go.Proofs.Ytkjpkdecoeoghaa
