/- Lists read back, of the program: strings.SplitN, strconv.Atoi and impl.parseList by contracts. -/
import Derived.Test.YthklnfanbegecacDoorJH
namespace Go.Proofs.YthklnfanbegecacDoor
open Go.RowKit
/-- What the library's variables hold: a number, two errors. -/
structure Gl (w : World) : Prop where
  m : ∃ m, w.cell? ⟨2, 0, none⟩ = some (.int .i64 m)
  s : ∃ ev, w.cell? ⟨0, 0, none⟩ = some ev ∧ (ev = .nilIface ∨ ∃ te pe, ev = .iface te pe)
  r : ∃ ev, w.cell? ⟨1, 0, none⟩ = some ev ∧ (ev = .nilIface ∨ ∃ te pe, ev = .iface te pe)
theorem Gl.below {w w' : World} {B : Nat} (h : Gl w) (hb : Below B w w') (hB : w.heap.size ≤ B) : Gl w' := by
  obtain ⟨m, hm⟩ := h.m
  obtain ⟨s, hs, es⟩ := h.s
  obtain ⟨r, hr, er⟩ := h.r
  have lm := World.block_lt_of_cell? w _ hm
  have ls := World.block_lt_of_cell? w _ hs
  have lr := World.block_lt_of_cell? w _ hr
  simp only at lm ls lr
  exact ⟨⟨m, (hb.cell (p := ⟨2, 0, none⟩) (show 2 < B by omega)).trans hm⟩, ⟨s, (hb.cell (p := ⟨0, 0, none⟩) (show 0 < B by omega)).trans hs, es⟩, ⟨r, (hb.cell (p := ⟨1, 0, none⟩) (show 1 < B by omega)).trans hr, er⟩⟩
theorem bt_back (l : List UInt8) : (bt l).data.toList = l := by simp [bt]
/-- strconv.Atoi. -/
theorem atoiE (l : List UInt8) (w : World) (G : Gl w) (hl : l.length ≤ 1048576) :
    Calls Tryd.prog 20 #[.string (bt l)] w fun e w' => ((∃ v, Lib.atoiAll l = .ok v ∧ e = .returned (.tuple #[.int .i64 v, .nilIface])) ∨ ((∀ v, Lib.atoiAll l ≠ .ok v) ∧ ∃ x t p, e = .returned (.tuple #[.int .i64 x, .iface t p]))) ∧ Below w.heap.size w w' := by
  have hsz : (bt l).size ≤ 1048576 := by rw [bt_size]; exact hl
  have hb := bt_back l
  by_cases h0 : Lib.atoiAll l = Lib.atoiAll []
  · obtain ⟨ev, h1, h2⟩ := G.s
    refine (Tryd.strconv_Atoi_syntax (bt l) (by omega) (by rw [hb]; exact h0) ev w h1 h2).mono fun e w' ⟨N, he, _, _, hw⟩ => ⟨.inr ⟨fun v hv => ?_, _, _, _, he⟩, hw⟩
    rw [h0] at hv
    exact absurd hv (by unfold Lib.atoiAll; simp)
  · rcases h : Lib.atoiAll l with v | _ | _
    · refine (Tryd.strconv_Atoi_ok (bt l) (by omega) v (by rw [hb]; exact h) w).mono fun e w' ⟨he, hw⟩ => ⟨.inl ⟨v, rfl, he⟩, ?_⟩
      rcases hw with rfl | ⟨t, rfl⟩
      · exact Below.refl _ _
      · exact Lib.bytesWorld_below _ _ _
    · exact absurd h h0
    · obtain ⟨ev, h1, h2⟩ := G.r
      refine (Tryd.strconv_Atoi_range (bt l) (by omega) (by rw [hb]; exact h) ev w h1 h2).mono fun e w' ⟨N, he, _, _, hw⟩ => ⟨.inr ⟨fun v hv => by simp at hv, _, _, _, he⟩, hw⟩
theorem splitK_len (k : Nat) (s : List UInt8) : (Lib.splitK [44] 0 k s).length = min (k + 1) (spl s).length := by
  induction k generalizing s with
  | zero =>
    have := spl_len s
    show 1 = _
    omega
  | succ k ih =>
    unfold Lib.splitK
    rcases cut_or s with hd | ⟨a, b, rfl, ha⟩
    · rw [idx_dry s hd, spl_dry s hd]
      show 1 = min _ 1
      omega
    · rw [idx_cut a b ha]
      have hne : ((a.length : Int) == -1) = false := beq_eq_false_iff_ne.2 (by omega)
      rw [spl_app, spl_dry a ha, hne]
      simp only [Bool.false_eq_true, if_false, Int.toNat_natCast, List.length_singleton, Nat.add_zero]
      rw [List.take_left, show (a ++ 44 :: b).drop (a.length + 1) = b from by rw [List.drop_append]; simp, List.length_cons, ih b]
      simp only [List.length_cons, List.length_append, List.length_nil]
      omega
theorem of_data (a : ByteArray) : a = bt a.data.toList := by
  unfold bt
  apply ByteArray.ext
  simp
/-- strings.SplitN at commas. -/
theorem splitE (q : Nat) (h1 : 1 ≤ q) (h16 : q ≤ 16) (l : List UInt8) (w : World) (G : Gl w) (hl : l.length ≤ 1048576) :
    Calls Tryd.prog 19 #[.string (bt l), .string ⟨#[44]⟩, .int .i64 ((q : Int) + 1)] w fun e w' => ∃ (P : List (List UInt8)) (N : Nat), e = .returned (.slice (some ⟨w.heap.size, 0, none⟩) P.length N) ∧ w.heap.size < w'.heap.size ∧
      (∀ j, j < P.length → w'.cell? ⟨w.heap.size, j, none⟩ = some (.string (bt (P.getD j [])))) ∧ 1 ≤ P.length ∧ P.length ≤ 17 ∧ ((P = spl l ∧ P.length ≤ q) ∨ (q < P.length ∧ q < (spl l).length)) ∧ Below w.heap.size w w' := by
  obtain ⟨m, hm⟩ := G.m
  have hsz := bt_size l
  have c := Tryd.strings_SplitN (bt l) ⟨#[44]⟩ (q + 1) m w (by omega) hm (by decide) (by omega) (by omega)
  generalize hK : min (q + 1) ((bt l).size + 1) = N at c
  have hP : (Lib.splitB ⟨#[44]⟩ 0 (N - 1) (bt l)).map (·.data.toList) = Lib.splitK [44] 0 (N - 1) l := by
    have := Lib.splitB_data ⟨#[44]⟩ 0 (N - 1) (bt l)
    rw [bt_back] at this
    exact this
  have hlenP := splitK_len (N - 1) l
  have hle := spl_le l
  have hpos := spl_len l
  have hfit : (spl l).length ≤ q → Lib.splitK [44] 0 (N - 1) l = spl l := fun h => splitK_spl _ _ (by omega)
  generalize Lib.splitB ⟨#[44]⟩ 0 (N - 1) (bt l) = Z at *
  generalize Lib.splitK [44] 0 (N - 1) l = P at *
  have hZ : Z.length = P.length := by rw [← hP]; simp
  refine c.mono fun e w' ⟨he, hw⟩ => ⟨P, N, by rw [he, hZ], ?_, ?_, by omega, by omega, ?_, ?_⟩
  · rw [hw]; simp
  · intro j hj
    rw [hw]
    have hh : (w.alloc (.cells (Lib.cellsOf Z N) 9)).heap[w.heap.size]? = some (.cells (Lib.cellsOf Z N) 9 (0, 0)) := heap_alloc_new w _
    rw [cell_of_row _ _ _ _ _ (0, 0) hh]
    unfold Lib.cellsOf
    rw [List.getElem?_toArray, List.getElem?_append_left (by simp; omega), List.getElem?_map, List.getElem?_eq_getElem (by omega)]
    simp only [Option.map_some]
    congr 2
    rw [of_data Z[j]]
    congr 1
    have e := congrArg (fun L => L.getD j []) hP
    have : j < Z.length := by omega
    rw [← e]
    simp [List.getD, this]
  · by_cases h : (spl l).length ≤ q
    · have := hfit h
      exact .inl ⟨this, by rw [this]; exact h⟩
    · exact .inr ⟨by omega, by omega⟩
  · rw [hw]
    exact (Below.refl _ _).alloc (Nat.le_refl _) _
theorem parseList_dash (q : Int) (w : World) :
    Calls Tryd.prog 11 #[.string ⟨#[45]⟩, .int .i64 q] w fun e w' => e = .returned (.tuple #[.slice none 0 0, .bool true]) ∧ Below w.heap.size w w' := by
  go_enter Tryd.func11, Tryd.ntmps11
  go_wp2
  go_ret2
  exact ⟨rfl, Below.refl _ _⟩
/-- What the program reads of the words. -/
def atv (P : List (List UInt8)) (i : Nat) : Int := match Lib.atoiAll (P.getD i []) with | .ok v => v | _ => 0
set_option maxRecDepth 100000 in
set_option maxHeartbeats 4000000 in
/-- impl.parseList. -/
theorem parseList_any (q : Nat) (h1 : 1 ≤ q) (h16 : q ≤ 16) (l : List UInt8) (w : World) (G : Gl w) (hl : l.length ≤ 1048576) (hd : l ≠ [45]) :
    Calls Tryd.prog 11 #[.string (bt l), .int .i64 (q : Int)] w fun e w' =>
      ((((spl l).length ≤ q ∧ ∀ i, i < (spl l).length → Lib.atoiAll ((spl l).getD i []) = .ok (atv (spl l) i)) ∧ ∃ v, e = .returned (.tuple #[v, .bool true]) ∧ Row w' w.heap.size v (fl (atv (spl l)) (spl l).length)) ∨
       ((q < (spl l).length ∨ ∃ i, i < (spl l).length ∧ ∀ v, Lib.atoiAll ((spl l).getD i []) ≠ .ok v) ∧ e = .returned (.tuple #[.slice none 0 0, .bool false]))) ∧ Below w.heap.size w w' := by
  obtain ⟨i0, hi, iz0, iz1, iz2⟩ := info_parts Tryd.infoI
  have hd' : ((bt l).toList == [45]) = false := by rw [bt_list]; simpa using hd
  have HSP := Lib.hid (splitE q h1 h16 l w G hl)
  have hwl : Hid (∀ i, i < (spl l).length → ((spl l).getD i []).length ≤ 1048576) := Lib.hid fun i hi => Nat.le_trans (spl_word l i hi) hl
  clear hd
  generalize bt l = s at *
  have hw64 : IntKind.i64.wrap ((q : Int) + 1) = (q : Int) + 1 := by rw [IntKind.wrap_i64]; omega
  go_enter Tryd.func11, Tryd.ntmps11
  go_wp2_with fail
  refine HSP.out.mono ?_
  rintro e w1 ⟨P, N, rfl, hlt1, hcl, hp1, hp17, hor, hb1⟩
  have HCL := Lib.hid hcl; clear hcl
  have HB1 := Lib.hid hb1; clear hb1
  rcases hor with ⟨hPs, hPq⟩ | ⟨hPq, hsq⟩
  · have HPS := Lib.hid hPs; clear hPs
    have hPq' : ¬ (q : Int) < (P.length : Int) := by omega
    have HAT : Hid (∀ i, i < P.length → ∀ w, Gl w → _) := Lib.hid (fun i (hi : i < P.length) w (hg : Gl w) => atoiE (P.getD i []) w hg (by rw [HPS.out] at hi ⊢; exact hwl.out i hi))
    have HG1 := Lib.hid (fun w' (hb : Below w1.heap.size w1 w') => (G.below HB1.out (Nat.le_refl _)).below hb (Nat.le_refl _))
    have HV : Hid (∀ i v, Lib.atoiAll (P.getD i []) = .ok v → atv P i = v) := Lib.hid fun i v h => by unfold atv; rw [h]
    generalize hn : P.length = n at *
    go_wp2_with (at_make; refine wpList_make_full _ rfl _ _ 22 rfl w1.heap.size 3 i0 (.int .i64 0) 1 Tryd.underlying22 hi iz0 iz1 .i64 .i64 _ _ n rfl rfl rfl rfl ?c3 ?c4 ?c5 ?_)
    case c3 => rw [iz2]; omega
    case c4 => unfold maxLen; omega
    case c5 => simp
    intro w2 hown hgrow
    have HR := Lib.hid (Row.madeF (atv P) hown)
    have HB := Lib.hid ((Below.refl w1.heap.size w1).grown hgrow (Nat.le_refl _) (fun k hk => by cases hk))
    clear hown hgrow
    go_wp2_with fail
    go_loopw [27] (fun vi wr => ∃ i : Nat, i ≤ n ∧ vi = .int .i64 i ∧ Row wr w1.heap.size (.slice (some ⟨w1.heap.size, 0, none⟩) n n) (fl (part0 (atv P) i) n) ∧ Below w1.heap.size w1 wr ∧ ∀ j, j < i → Lib.atoiAll (P.getD j []) = .ok (atv P j)) (fun vi _ => n - (intOf vi).toNat)
    case atStart => exact ⟨0, Nat.zero_le _, rfl, HR.out, HB.out, fun j hj => by omega⟩
    case round =>
      obtain ⟨i, hin, rfl, hr, hbel, hok⟩ := hrel
      have HOK := Lib.hid hok; clear hok
      by_cases hlt : i < n
      · have e1 := (hbel.cell (p := ⟨w.heap.size, i, none⟩) hlt1).trans (HCL.out i hlt)
        have HA := Lib.hid (HAT.out i hlt wr (HG1.out wr hbel))
        have HVI := Lib.hid (HV.out i)
        have HIN : Hid ((∀ v, Lib.atoiAll (P.getD i []) ≠ .ok v) → ∃ i, i < (spl l).length ∧ ∀ v, Lib.atoiAll ((spl l).getD i []) ≠ .ok v) := Lib.hid fun h => ⟨i, by rw [← HPS.out, hn]; exact hlt, by rw [← HPS.out]; exact h⟩
        have HOK2 : Hid (∀ v, Lib.atoiAll (P.getD i []) = .ok v → ∀ j, j < i + 1 → Lib.atoiAll (P.getD j []) = .ok (atv P j)) := Lib.hid fun v hv j hj => by
          by_cases hji : j = i
          · subst hji
            rw [HVI.out v hv]
            exact hv
          · exact HOK.out j (by omega)
        have HRR := Lib.hid hr; clear hr
        have hbz := hbel.size
        have HBB := Lib.hid hbel; clear hbel
        generalize P.getD i [] = word at *
        go_wp2_with fail
        refine HA.out.mono ?_
        rintro e w3 ⟨⟨v, hv, rfl⟩ | ⟨hno, x, t, p, rfl⟩, hb3⟩
        · have hr3 := HRR.out.below hb3
          have e2 := Row.cell (l := fl (part0 (atv P) i) n) (cap := n) (by rw [fl_len]; exact hr3) i (by rw [fl_len]; exact hlt)
          have f2 := hr3.frozen (by rw [fl_len]) i
          have HR' := Lib.hid (hr3.store (by rw [fl_len]) i v)
          have HB' := Lib.hid (HBB.out.trans (hb3.mono hbz))
          have hav := HVI.out v hv
          have HON := Lib.hid (HOK2.out v hv)
          have HS := Lib.hid (part0_step (atv P) i)
          have HAV := Lib.hid hav
          clear hr3 hb3 hv hav
          generalize (fl (part0 (atv P) i) n).getD i 0 = u at *
          go_wp2
          go_roundw
          case rel =>
            refine ⟨i + 1, by omega, by go_num, ?_, HB'.out.setCell (Nat.le_refl _) _, HON.out⟩
            rw [← HS.out, ← fl_set, HAV.out]
            exact HR'.out
          case measure => simp [intOf]; omega
        · have HF := Lib.hid (HIN.out hno)
          have HB3 := Lib.hid hb3; clear hb3 hno
          go_wp2
          go_ret2
          have hb1 := HB1.out
          have hb2 := HBB.out
          have hb3 := HB3.out
          exact ⟨.inr ⟨.inr HF.out, rfl⟩, by (repeat' (first | (with_reducible assumption) | (with_reducible exact Below.refl _ _) | (with_reducible refine below_drewN ?_ _) | (with_reducible refine Below.drew ?_) | (with_reducible refine Below.alloc ?_ ?_ _) | (with_reducible refine Below.setCell ?_ ?_ _) | (with_reducible refine Below.trans ?_ (Below.mono (by assumption) ?_)) | (with_reducible exact Nat.le_refl _) | (with_reducible assumption) | omega | (simp; omega) | (simp; done)))⟩
      · obtain rfl : n = i := by omega
        have HRR := Lib.hid hr; clear hr
        have HBB := Lib.hid hbel; clear hbel
        go_wp2
        go_ret2
        refine ⟨.inl ⟨⟨by rw [← HPS.out, hn]; exact hPq, fun j hj => by rw [← HPS.out, hn] at hj; rw [← HPS.out]; exact HOK.out j hj⟩, _, rfl, ?_⟩, ?_⟩
        · rw [← HPS.out, hn, ← part0_all]
          exact HRR.out.mono (by have := HB1.out.size; omega)
        · have hb1 := HB1.out
          have hb2 := HBB.out
          (repeat' (first | (with_reducible assumption) | (with_reducible exact Below.refl _ _) | (with_reducible refine below_drewN ?_ _) | (with_reducible refine Below.drew ?_) | (with_reducible refine Below.alloc ?_ ?_ _) | (with_reducible refine Below.setCell ?_ ?_ _) | (with_reducible refine Below.trans ?_ (Below.mono (by assumption) ?_)) | (with_reducible exact Nat.le_refl _) | (with_reducible assumption) | omega | (simp; omega) | (simp; done)))
  · have hPq' : (q : Int) < (P.length : Int) := by omega
    generalize P.length = n at *
    go_wp2
    go_ret2
    exact ⟨.inr ⟨.inl hsq, rfl⟩, HB1.out⟩
end Go.Proofs.YthklnfanbegecacDoor
