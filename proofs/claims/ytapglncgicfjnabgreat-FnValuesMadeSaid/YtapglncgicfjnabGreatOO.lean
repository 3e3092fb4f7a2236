/- Strictly increasing lists of elements: impl.field.isSet, spec.vaRising, by contracts. -/
import Derived.Test.YtapglncgicfjnabGreatKM
import Derived.BigQuiet
namespace Go.Proofs.YtapglncgicfjnabGreat
open Go.RowKit
/-- Increasing so far. -/
def adj (l : List Int) (i : Nat) : Bool := (List.range i).all fun j => j == 0 || decide (l.getD (j - 1) 0 < l.getD j 0)
def rsn (q : Int) (l : List Int) : Bool := l.all (inF q) && adj l l.length
theorem adj_succ (l : List Int) (i : Nat) : adj l (i + 1) = (adj l i && (i == 0 || decide (l.getD (i - 1) 0 < l.getD i 0))) := by
  simp [adj, List.range_succ, List.all_append]
theorem adj_up (l : List Int) (i : Nat) (h : ¬ l.getD (i + 1) 0 ≤ l.getD i 0) : adj l (i + 2) = adj l (i + 1) := by
  rw [adj_succ]
  have : decide (l.getD (i + 1 - 1) 0 < l.getD (i + 1) 0) = true := by rw [Nat.add_sub_cancel]; exact decide_eq_true (by omega)
  rw [this]
  simp
theorem adj_bad (l : List Int) (i n : Nat) (hn : i + 1 < n) (h : l.getD (i + 1) 0 ≤ l.getD i 0) : adj l n = false := by
  unfold adj
  rw [List.all_eq_false]
  refine ⟨i + 1, List.mem_range.2 hn, ?_⟩
  rw [Nat.add_sub_cancel, show (i + 1 == 0) = false from rfl, Bool.false_or, decide_eq_true_iff]
  omega
theorem rsn_len {q : Int} {l : List Int} (h : rsn q l = true) : (l.length : Int) ≤ q ∨ l.length = 0 := by
  simp only [rsn, Bool.and_eq_true] at h
  obtain ⟨h1, h2⟩ := h
  by_cases h0 : l.length = 0
  · exact .inr h0
  · refine .inl ?_
    have hin : ∀ i, i < l.length → 0 ≤ l.getD i 0 ∧ l.getD i 0 < q := fun i hi => by
      have := List.all_eq_true.1 h1 _ (show l.getD i 0 ∈ l by rw [show l.getD i 0 = l[i] by simp [List.getD, hi]]; exact List.getElem_mem hi)
      simpa [inF] using this
    have hge : ∀ i, i < l.length → (i : Int) ≤ l.getD i 0 := by
      intro i
      induction i with
      | zero => intro hi; exact (hin 0 hi).1
      | succ i ih =>
        intro hi
        have h3 := ih (by omega)
        have h4 := List.all_eq_true.1 h2 (i + 1) (List.mem_range.2 hi)
        rw [Nat.add_sub_cancel] at h4
        simp at h4
        simp only [List.getD_eq_getElem?_getD] at h3 ⊢
        omega
    have h5 := hge (l.length - 1) (by omega)
    have h6 := (hin (l.length - 1) (by omega)).2
    omega
theorem hasE (q a : Int) (w : World) : Calls Tryz.prog 153 #[fdE q, .int .i64 a] w fun e w' => e = .returned (.bool (inF q a)) ∧ Below w.heap.size w w' := by
  by_cases h0 : 0 ≤ a
  · by_cases h1 : a < q
    · rw [show inF q a = true by simp [inF, h0, h1]]
      exact has_yes q a w h0 h1
    · rw [show inF q a = false by simp [inF, h1]]
      exact has_high q a w h0 (by omega)
  · rw [show inF q a = false by simp [inF, h0]]
    exact has_low q a w (by omega)
set_option maxHeartbeats 4000000 in
/-- impl.field.isSet. -/
theorem isSetE (q : Int) (v : Value) (l : List Int) (w : World) (hv : Sl w v l) (hl : l.length ≤ 1048576) :
    Calls Tryz.prog 68 #[fdE q, v] w fun e w' => e = .returned (.bool (rsn q l)) ∧ Below w.heap.size w w' := by
  have hv' := hv.tell
  obtain ⟨a, cap, rfl, hcc⟩ := hv'.parts
  have HC := Lib.hid hcc
  have HT := Lib.hid (all_take_succ (inF q) l)
  have HF := Lib.hid (all_false_of (inF q) l)
  have HE : Hid (l.take l.length = l) := Lib.hid (List.take_of_length_le (Nat.le_refl _))
  have HU := Lib.hid (adj_up l)
  have HBAD := Lib.hid (adj_bad l)
  have H1 : Hid (adj l 1 = true) := Lib.hid (by simp [adj, List.range_succ])
  have H0 : Hid (adj l 0 = true) := Lib.hid rfl
  have HR : Hid (rsn q l = (l.all (inF q) && adj l l.length)) := Lib.hid rfl
  obtain ⟨ans, hans⟩ : ∃ x, rsn q l = x := ⟨_, rfl⟩
  rw [hans]
  rw [hans] at HR
  clear hans hv hv' hcc
  generalize hn : l.length = n at *
  clear hn
  go_enter Tryz.func68, Tryz.ntmps68
  go_wp2_with fail
  have HS : Hid (Below (w.heap.size + 1) (w.alloc (ffblk q)) (w.alloc (ffblk q))) := Lib.hid (Below.refl _ _)
  have HB : Hid (∀ wr, Below (w.heap.size + 1) (w.alloc (ffblk q)) wr → Below w.heap.size w wr) := Lib.hid fun wr hb => by (repeat' (first | (with_reducible assumption) | (with_reducible exact Below.refl _ _) | (with_reducible refine below_drewN ?_ _) | (with_reducible refine Below.drew ?_) | (with_reducible refine Below.alloc ?_ ?_ _) | (with_reducible refine Below.setCell ?_ ?_ _) | (with_reducible refine Below.trans ?_ (Below.mono (by assumption) ?_)) | (with_reducible exact Nat.le_refl _) | (with_reducible assumption) | omega | (simp; omega) | (simp; done)))
  have HFF : Hid (∀ wr, Below (w.heap.size + 1) (w.alloc (ffblk q)) wr → wr.heap[w.heap.size]? = some (ffblk q)) := Lib.hid fun wr hb => (hb.block _ (by omega)).trans (heap_alloc_new w _)
  go_loopw [9] (fun vi wr => ∃ i : Nat, i ≤ n ∧ vi = .int .i64 i ∧ (l.take i).all (inF q) = true ∧ adj l i = true ∧ Below (w.heap.size + 1) (w.alloc (ffblk q)) wr) (fun vi _ => n - (intOf vi).toNat)
  case atStart => exact ⟨0, Nat.zero_le _, rfl, by simp, H0.out, HS.out⟩
  case round =>
    obtain ⟨i, hi', rfl, hall, hadj, hbw⟩ := hrel
    have HA := Lib.hid hall
    have HD := Lib.hid hadj
    have HBW := Lib.hid hbw
    obtain ⟨x0, x1, x2, xf, xl⟩ := cells3' (HFF.out wr hbw)
    have hbww := HB.out wr hbw
    clear hall hadj
    by_cases hlt : i < n
    · obtain ⟨b, off, rfl, hb, hc⟩ := HC.out (by omega)
      have hci := (hbww.cell (p := ⟨b, off + i, none⟩) hb).trans (hc i hlt)
      have HT' := Lib.hid (HT.out i (by omega))
      have HF' := Lib.hid (HF.out i (by omega))
      have HCP : Hid (∀ (j : Nat) w', j < n → Below (w.heap.size + 1) (w.alloc (ffblk q)) w' → w'.cell? ⟨b, off + j, none⟩ = some (.int .i64 (l.getD j 0))) := Lib.hid fun j w' hj hb' => ((HB.out w' hb').cell (p := ⟨b, off + j, none⟩) hb).trans (hc j hj)
      clear HT HF hc hbw hbww
      by_cases hp : inF q (l.getD i 0) = true
      · have HP := Lib.hid hp
        have HH := Lib.hid (fun w => hasE q (l.getD i 0) w)
        rw [hp] at HH
        clear hp
        by_cases h0 : i = 0
        · subst h0
          obtain ⟨u, hu⟩ : ∃ u, l.getD 0 0 = u := ⟨_, rfl⟩
          rw [hu] at hci HH HP HT'
          clear hu
          rw [Nat.add_zero] at hci
          go_wp2_with fail
          refine (HH.out _).mono ?_
          rintro e w1 ⟨rfl, hb1⟩
          have HB1 : Hid (Below (w.heap.size + 1) (w.alloc (ffblk q)) w1) := Lib.hid (by have hbw := HBW.out; have := hbw.size; simp at this; exact hbw.trans (hb1.mono (by omega)))
          clear hb1
          go_wp2
          go_roundw
          case rel => exact ⟨1, by omega, by go_num, by rw [HT'.out, HA.out, HP.out]; rfl, H1.out, HB1.out⟩
          case measure => simp [intOf]; omega
        · obtain ⟨j, rfl⟩ : ∃ j, i = j + 1 := ⟨i - 1, by omega⟩
          have HU' := Lib.hid (HU.out j)
          have HBAD' := Lib.hid (HBAD.out j n (by omega))
          have HCP' := Lib.hid (fun w' hb' => HCP.out j w' (by omega) hb')
          obtain ⟨u, hu⟩ : ∃ u, l.getD (j + 1) 0 = u := ⟨_, rfl⟩
          rw [hu] at hci HH HP HT' HU' HBAD'
          clear hu
          obtain ⟨u', hu'⟩ : ∃ u, l.getD j 0 = u := ⟨_, rfl⟩
          rw [hu'] at HU' HBAD' HCP'
          clear hu'
          have hz : (((j + 1 : Nat) : Int) - 1) = (j : Int) := by omega
          have hpos : (0 : Int) < ((j + 1 : Nat) : Int) := by omega
          by_cases hle : u ≤ u'
          · have HX : Hid (ans = false) := Lib.hid (by rw [HR.out, HBAD'.out hle, Bool.and_false])
            clear HU' HBAD'
            go_wp2_with fail
            refine (HH.out _).mono ?_
            rintro e w1 ⟨rfl, hb1⟩
            have HB1 : Hid (Below (w.heap.size + 1) (w.alloc (ffblk q)) w1) := Lib.hid (by have hbw := HBW.out; have := hbw.size; simp at this; exact hbw.trans (hb1.mono (by omega)))
            have hcj := HCP'.out w1 HB1.out
            clear hb1
            go_wp2
            go_ret
            exact ⟨by rw [HX.out]; rfl, HB.out _ HB1.out⟩
          · have HX : Hid (adj l (j + 2) = true) := Lib.hid (by rw [HU'.out (by omega)]; exact HD.out)
            clear HU' HBAD'
            go_wp2_with fail
            refine (HH.out _).mono ?_
            rintro e w1 ⟨rfl, hb1⟩
            have HB1 : Hid (Below (w.heap.size + 1) (w.alloc (ffblk q)) w1) := Lib.hid (by have hbw := HBW.out; have := hbw.size; simp at this; exact hbw.trans (hb1.mono (by omega)))
            have hcj := HCP'.out w1 HB1.out
            clear hb1
            go_wp2
            go_roundw
            case rel => exact ⟨j + 2, by omega, by go_num, by rw [show j + 2 = j + 1 + 1 from rfl, HT'.out, HA.out, HP.out]; rfl, HX.out, HB1.out⟩
            case measure => simp [intOf]; omega
      · have HP : Hid (inF q (l.getD i 0) = false) := Lib.hid (by simpa using hp)
        have HH := Lib.hid (fun w => hasE q (l.getD i 0) w)
        rw [HP.out] at HH
        have HX : Hid (ans = false) := Lib.hid (by rw [HR.out, HF'.out HP.out, Bool.false_and])
        clear hp
        obtain ⟨u, hu⟩ : ∃ u, l.getD i 0 = u := ⟨_, rfl⟩
        rw [hu] at hci HH
        clear hu HP HF' HT'
        go_wp2_with fail
        refine (HH.out _).mono ?_
        rintro e w1 ⟨rfl, hb1⟩
        have HB1 : Hid (Below (w.heap.size + 1) (w.alloc (ffblk q)) w1) := Lib.hid (by have hbw := HBW.out; have := hbw.size; simp at this; exact hbw.trans (hb1.mono (by omega)))
        clear hb1
        go_wp2
        go_ret
        exact ⟨by rw [HX.out]; rfl, HB.out _ HB1.out⟩
    · obtain rfl : n = i := by omega
      have HX : Hid (ans = true) := Lib.hid (by rw [HR.out, HD.out, Bool.and_true, ← HA.out, HE.out])
      clear HT HF
      go_wp2
      go_ret
      exact ⟨by rw [HX.out]; rfl, HB.out _ HBW.out⟩
set_option maxHeartbeats 4000000 in
/-- spec.vaRising. -/
theorem vaRising_any (q : Int) (v : Value) (l : List Int) (w : World) (hv : Sl w v l) (hl : l.length ≤ 1048576) :
    Calls Tryz.prog 74 #[.int .i64 q, v] w fun e w' => e = .returned (.bool (isSz q && rsn q l)) ∧ Below w.heap.size w w' := by
  have HS := Lib.hid (fun w => fdSize_any q w)
  cases h : isSz q with
  | false =>
    rw [h] at HS
    obtain ⟨a, cap, rfl⟩ := hv.form
    clear h hv
    go_enter Tryz.func74, Tryz.ntmps74
    go_wp2_with fail
    refine (HS.out _).mono ?_
    rintro e w1 ⟨rfl, hb1⟩
    obtain ⟨hc1, hf1⟩ := bcell hb1; have hz1 := hb1.size; (try simp at hz1); have HB1 := Lib.hid hb1; clear hb1
    go_wp2
    go_ret
    have hb1 := HB1.out
    exact ⟨rfl, by (repeat' (first | (with_reducible assumption) | (with_reducible exact Below.refl _ _) | (with_reducible refine below_drewN ?_ _) | (with_reducible refine Below.drew ?_) | (with_reducible refine Below.alloc ?_ ?_ _) | (with_reducible refine Below.setCell ?_ ?_ _) | (with_reducible refine Below.trans ?_ (Below.mono (by assumption) ?_)) | (with_reducible exact Nat.le_refl _) | (with_reducible assumption) | omega | (simp; omega) | (simp; done)))⟩
  | true =>
    have hq := isSz_le q h
    rw [h] at HS
    rw [Bool.true_and]
    have HA := Lib.hid (fun w' (hb : Below w.heap.size w w') => l1All_any v l 0 (q - 1) w' (hv.below hb (Nat.le_refl _)) hl)
    have HALL : Hid ((l.all fun x => decide (0 ≤ x) && decide (x ≤ q - 1)) = l.all (inF q)) := Lib.hid (by
      congr 1
      funext x
      unfold inF
      congr 1
      rw [decide_eq_decide]
      omega)
    rw [HALL.out] at HA
    have hwr : IntKind.i64.wrap (q - 1) = q - 1 := IntWalk.i64_in _ (by omega)
    have HR : Hid (rsn q l = (l.all (inF q) && adj l l.length)) := Lib.hid rfl
    obtain ⟨ans, hans⟩ : ∃ x, rsn q l = x := ⟨_, rfl⟩
    rw [hans]
    rw [hans] at HR
    clear hans h HALL
    cases hall : l.all (inF q) with
    | false =>
      rw [hall] at HA HR
      have HX : Hid (ans = false) := Lib.hid (by rw [HR.out, Bool.false_and])
      obtain ⟨a, cap, rfl⟩ := hv.form
      clear hv hall HR
      go_enter Tryz.func74, Tryz.ntmps74
      go_wp2_with fail
      refine (HS.out _).mono ?_
      rintro e w1 ⟨rfl, hb1⟩
      have HB1 := Lib.hid hb1; clear hb1
      go_wp2_with fail
      refine (HA.out _ HB1.out).mono ?_
      rintro e _ ⟨rfl, rfl⟩
      go_wp2
      go_ret
      exact ⟨by rw [HX.out]; rfl, HB1.out⟩
    | true =>
      rw [hall, Bool.true_and] at HR
      rw [hall] at HA
      have hv' := hv.tell
      obtain ⟨a, cap, rfl, hcc⟩ := hv'.parts
      have HC := Lib.hid hcc
      have HU := Lib.hid (adj_up l)
      have HBAD := Lib.hid (adj_bad l)
      have H1 : Hid (adj l 1 = true) := Lib.hid (by simp [adj, List.range_succ])
      have H0 : Hid (adj l 0 = true) := Lib.hid rfl
      clear hv hv' hcc hall
      generalize hn : l.length = n at *
      clear hn
      go_enter Tryz.func74, Tryz.ntmps74
      go_wp2_with fail
      refine (HS.out _).mono ?_
      rintro e w1 ⟨rfl, hb1⟩
      have HB1 := Lib.hid hb1; clear hb1
      go_wp2_with fail
      refine (HA.out _ HB1.out).mono ?_
      rintro e _ ⟨rfl, rfl⟩
      go_wp2_with fail
      go_loopw [5] (fun vi wr => ∃ i : Nat, 1 ≤ i ∧ (i ≤ n ∨ i = 1) ∧ vi = .int .i64 i ∧ adj l i = true ∧ Below w.heap.size w wr) (fun vi _ => n + 1 - (intOf vi).toNat)
      case atStart => exact ⟨1, Nat.le_refl _, .inr rfl, rfl, H1.out, HB1.out⟩
      case round =>
        obtain ⟨i, hi1, hi2, rfl, hadj, hbw⟩ := hrel
        have HD := Lib.hid hadj
        have HBW := Lib.hid hbw
        by_cases hlt : i < n
        · obtain ⟨b, off, rfl, hb, hc⟩ := HC.out (by omega)
          obtain ⟨j, rfl⟩ : ∃ j, i = j + 1 := ⟨i - 1, by omega⟩
          have hci := (hbw.cell (p := ⟨b, off + (j + 1), none⟩) hb).trans (hc (j + 1) hlt)
          have hcj := (hbw.cell (p := ⟨b, off + j, none⟩) hb).trans (hc j (by omega))
          have HU' := Lib.hid (HU.out j)
          have HBAD' := Lib.hid (HBAD.out j n (by omega))
          clear hbw hadj hc
          obtain ⟨u, hu⟩ : ∃ u, l.getD (j + 1) 0 = u := ⟨_, rfl⟩
          rw [hu] at hci HU' HBAD'
          clear hu
          obtain ⟨u', hu'⟩ : ∃ u, l.getD j 0 = u := ⟨_, rfl⟩
          rw [hu'] at hcj HU' HBAD'
          clear hu'
          have hz : (((j + 1 : Nat) : Int) - 1) = (j : Int) := by omega
          by_cases hle : u ≤ u'
          · have HX : Hid (ans = false) := Lib.hid (by rw [HR.out, HBAD'.out hle])
            clear HU' HBAD'
            go_wp2_with fail
            go_quiet (fail)
            go_wp2
            go_ret
            exact ⟨by rw [HX.out]; rfl, by have hbw := HBW.out; (repeat' (first | (with_reducible assumption) | (with_reducible exact Below.refl _ _) | (with_reducible refine below_drewN ?_ _) | (with_reducible refine Below.drew ?_) | (with_reducible refine Below.alloc ?_ ?_ _) | (with_reducible refine Below.setCell ?_ ?_ _) | (with_reducible refine Below.trans ?_ (Below.mono (by assumption) ?_)) | (with_reducible exact Nat.le_refl _) | (with_reducible assumption) | omega | (simp; omega) | (simp; done)))⟩
          · have HX : Hid (adj l (j + 2) = true) := Lib.hid (by rw [HU'.out (by omega)]; exact HD.out)
            clear HU' HBAD'
            go_wp2_with fail
            go_quiet (fail)
            go_wp2
            go_roundw
            case rel => exact ⟨j + 2, by omega, .inl (by omega), by go_num, HX.out, by have hbw := HBW.out; (repeat' (first | (with_reducible assumption) | (with_reducible exact Below.refl _ _) | (with_reducible refine below_drewN ?_ _) | (with_reducible refine Below.drew ?_) | (with_reducible refine Below.alloc ?_ ?_ _) | (with_reducible refine Below.setCell ?_ ?_ _) | (with_reducible refine Below.trans ?_ (Below.mono (by assumption) ?_)) | (with_reducible exact Nat.le_refl _) | (with_reducible assumption) | omega | (simp; omega) | (simp; done)))⟩
            case measure => simp [intOf]; omega
        · have HX : Hid (ans = true) := Lib.hid (by
            rw [HR.out]
            by_cases h0 : n = 0
            · rw [h0]; exact H0.out
            · have e : n = i := by omega
              rw [e]; exact HD.out)
          clear hbw hadj
          go_wp2
          go_ret
          exact ⟨by rw [HX.out]; rfl, HBW.out⟩
end Go.Proofs.YtapglncgicfjnabGreat
