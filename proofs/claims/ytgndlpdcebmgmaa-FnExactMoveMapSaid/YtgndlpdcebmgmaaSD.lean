/- impl.countsOf at elements and at numbers, slices.Grow and Concat of numbers, impl.spread.hasOnly, greatest, by contracts. -/
import Derived.Test.YtgndlpdcebmgmaaSA
import Derived.Test.YtgndlpdcebmgmaaRB
import Derived.Test.YtgndlpdcebmgmaaLV
import Derived.Lib.AppendZerosOnto
import Derived.Lib.AppendZeros
namespace Go.Proofs.Ytgndlpdcebmgmaa
open Go.RowKit
theorem part0_zM (m : Nat) : fl (part0 (fun _ => 0) 0) m = fl (fun _ => 0) m := fl_congr fun i _ => by simp [part0]
set_option maxRecDepth 100000 in
set_option maxHeartbeats 4000000 in
/-- impl.countsOf at elements, by their numbers. -/
theorem countsEl (m g n cap : Nat) (f : Nat → Int) (w : World) (h : isSz (m : Int) = true) (hg : g < w.heap.size) (he : Els w g (m : Int) f n) (hf : ∀ i, i < n → El (m : Int) (f i)) (hn : n ≤ 1000) :
    Calls Try.prog 73 #[.int .i64 m, .slice (some ⟨g, 0, none⟩) n cap, .func (.func 72) #[] #[]] w fun e w' => ∃ g', e = .returned (.slice (some ⟨g', 0, none⟩) m m) ∧ w.heap.size ≤ g' ∧ g' < w'.heap.size ∧ Row w' w.heap.size (.slice (some ⟨g', 0, none⟩) m m) (fl (oc f n) m) ∧ Below w.heap.size w w' := by
  obtain ⟨i0, hi, iz0, iz1, iz2⟩ := info_parts Try.infoI
  have hq := isSz_le (m : Int) h
  have HN := Lib.hid (fun i w (hi : i < n) => numberE (m : Int) (f i) w h (hf i hi).1 (hf i hi).2)
  have HT := Lib.hid hf
  have HE := Lib.hid he
  have HBD := Lib.hid (oc_bd f)
  have HSU := Lib.hid (oc_succ f)
  have HO0 : Hid (oc f 0 = fun _ => 0) := Lib.hid rfl
  clear h he hf
  go_enter Try.func73, Try.ntmps73
  go_wp2_with (at_make; refine wpList_make_full _ rfl _ _ 22 rfl w.heap.size 3 i0 (.int .i64 0) 1 Try.underlying22 hi iz0 iz1 .i64 .i64 _ _ m rfl rfl rfl rfl ?c3 ?c4 ?c5 ?_)
  case c3 => rw [iz2]; omega
  case c4 => unfold maxLen; omega
  case c5 => omega
  intro w1 hown hgrow
  have HR : Hid (Row w1 w.heap.size (.slice (some ⟨w.heap.size, 0, none⟩) m m) (fl (oc f 0) m)) := Lib.hid (by
    have := Row.madeF (fun _ => 0) hown
    rw [part0_zM] at this
    exact this)
  have HB := Lib.hid ((Below.refl w.heap.size w).grown hgrow (Nat.le_refl _) (fun k hk => by cases hk))
  have hgl : w.heap.size < w1.heap.size := (HR.out.lt w.heap.size rfl).2
  clear hown hgrow
  go_wp2_with fail
  go_loopw [14] (fun vi wr => ∃ i : Nat, i ≤ n ∧ vi = .int .i64 i ∧ Row wr w.heap.size (.slice (some ⟨w.heap.size, 0, none⟩) m m) (fl (oc f i) m) ∧ w.heap.size < wr.heap.size ∧ Below w.heap.size w wr) (fun vi _ => n - (intOf vi).toNat)
  case atStart => exact ⟨0, Nat.zero_le _, rfl, HR.out, hgl, HB.out⟩
  case round =>
    obtain ⟨i, hin, rfl, hr, hgl', hbw⟩ := hrel
    have hz := hbw.size
    have HRr := Lib.hid hr
    have HBW := Lib.hid hbw
    clear hr hbw
    by_cases hlt : i < n
    · obtain ⟨c0, c1, c2, c3, c4, c5, c6⟩ := (HE.out.below HBW.out hg) i hlt
      have hgr : g < wr.heap.size := by omega
      have hte := HT.out i hlt
      have HN' := Lib.hid (fun w => HN.out i w hlt)
      obtain ⟨k, hk⟩ := Int.eq_ofNat_of_zero_le hte.1
      have hk2 : k < m := by have := hte.2; omega
      have HUP := Lib.hid (HSU.out i k hk)
      have hbd := HBD.out i k
      rw [hk] at HN' c3 c4 c5 c6
      clear hte hk
      obtain ⟨x, hx⟩ : ∃ x, oc f i k = x := ⟨_, rfl⟩
      rw [hx] at hbd HUP
      have HX := Lib.hid hx
      clear hx
      have hwr : IntKind.i64.wrap (x + 1) = x + 1 := IntWalk.i64_in _ (by omega)
      go_wp2_with fail
      refine (HN'.out _).mono ?_
      rintro e w5 ⟨rfl, hb5⟩
      have hbz : Below wr.heap.size wr w5 := by (repeat' (first | (with_reducible assumption) | (with_reducible exact Below.refl _ _) | (with_reducible refine below_drewN ?_ _) | (with_reducible refine Below.drew ?_) | (with_reducible refine Below.alloc ?_ ?_ _) | (with_reducible refine Below.setCell ?_ ?_ _) | (with_reducible refine Below.trans ?_ (Below.mono (by assumption) ?_)) | (with_reducible exact Nat.le_refl _) | (with_reducible assumption) | omega | (simp; omega) | (simp; done)))
      have hr5 := HRr.out.below hbz
      have hz5 := hbz.size
      have e2 := Row.cell (l := fl (oc f i) m) (cap := m) (by rw [fl_len]; exact hr5) k (by rw [fl_len]; exact hk2)
      rw [fl_get _ _ _ hk2, HX.out] at e2
      have f2 := hr5.frozen (by rw [fl_len]) k
      have HST := Lib.hid (hr5.store (by rw [fl_len]) k (x + 1))
      have HBW5 : Hid (Below w.heap.size w w5) := Lib.hid (HBW.out.trans (hbz.mono hz))
      clear hr5 hbz hb5 c0 c1 c2 c3 c4 c5 c6
      go_wp2
      go_roundw
      case rel =>
        refine ⟨i + 1, by omega, by go_num, ?_, by simp; omega, HBW5.out.setCell (Nat.le_refl _) _⟩
        rw [HUP.out, ← fl_set]
        exact HST.out
      case measure => (simp [intOf]; try omega)
    · obtain rfl : n = i := by omega
      go_wp2
      go_ret
      exact ⟨_, rfl, Nat.le_refl _, hgl', HRr.out, HBW.out⟩
theorem idClo (k : Int) (w : World) : Calls Try.prog 124 #[.int .i64 k] w fun e w' => e = .returned (.int .i64 k) ∧ w = w' := by
  go_enter Try.func124, Try.ntmps124
  go_wp2
  go_ret
  exact ⟨rfl, rfl⟩
set_option maxRecDepth 100000 in
set_option maxHeartbeats 4000000 in
/-- impl.countsOf at numbers, by themselves. -/
theorem countsI (N n : Nat) (v : Value) (c : Nat → Int) (w : World) (hv : Sl w v (fl c n)) (hc : ∀ i, i < n → El (N : Int) (c i)) (hn : n ≤ 1000) (hN : 1 ≤ N ∧ N ≤ 17) :
    Calls Try.prog 122 #[.int .i64 N, v, .func (.func 124) #[] #[]] w fun e w' => ∃ g', e = .returned (.slice (some ⟨g', 0, none⟩) N N) ∧ w.heap.size ≤ g' ∧ g' < w'.heap.size ∧ Row w' w.heap.size (.slice (some ⟨g', 0, none⟩) N N) (fl (oc c n) N) ∧ Below w.heap.size w w' := by
  obtain ⟨i0, hi, iz0, iz1, iz2⟩ := info_parts Try.infoI
  obtain ⟨a, cap, rfl, hcc⟩ := hv.parts
  have HT := Lib.hid hc
  have HCL := Lib.hid hcc
  have HBD := Lib.hid (oc_bd c)
  have HSU := Lib.hid (oc_succ c)
  have HO0 : Hid (oc c 0 = fun _ => 0) := Lib.hid rfl
  clear hv hcc hc
  go_enter Try.func122, Try.ntmps122
  go_wp2_with (at_make; refine wpList_make_full _ rfl _ _ 22 rfl w.heap.size 3 i0 (.int .i64 0) 1 Try.underlying22 hi iz0 iz1 .i64 .i64 _ _ N rfl rfl rfl rfl ?c3 ?c4 ?c5 ?_)
  case c3 => rw [iz2]; omega
  case c4 => unfold maxLen; omega
  case c5 => omega
  intro w1 hown hgrow
  have HR : Hid (Row w1 w.heap.size (.slice (some ⟨w.heap.size, 0, none⟩) N N) (fl (oc c 0) N)) := Lib.hid (by
    have := Row.madeF (fun _ => 0) hown
    rw [part0_zM] at this
    exact this)
  have HB := Lib.hid ((Below.refl w.heap.size w).grown hgrow (Nat.le_refl _) (fun k hk => by cases hk))
  have hgl : w.heap.size < w1.heap.size := (HR.out.lt w.heap.size rfl).2
  clear hown hgrow
  go_wp2_with fail
  go_loopw [14] (fun vi wr => ∃ i : Nat, i ≤ n ∧ vi = .int .i64 i ∧ Row wr w.heap.size (.slice (some ⟨w.heap.size, 0, none⟩) N N) (fl (oc c i) N) ∧ w.heap.size < wr.heap.size ∧ Below w.heap.size w wr) (fun vi _ => n - (intOf vi).toNat)
  case atStart => exact ⟨0, Nat.zero_le _, rfl, HR.out, hgl, HB.out⟩
  case round =>
    obtain ⟨i, hin, rfl, hr, hgl', hbw⟩ := hrel
    by_cases hlt : i < n
    · obtain ⟨b, off, rfl, hb, hcl⟩ := HCL.out (by omega)
      have hcell := (hbw.cell (p := ⟨b, off + i, none⟩) hb).trans (hcl i hlt)
      have hte := HT.out i hlt
      obtain ⟨k, hk⟩ := Int.eq_ofNat_of_zero_le hte.1
      rw [hk] at hcell
      have hk2 : k < N := by have := hte.2; omega
      have e2 := Row.cell (l := fl (oc c i) N) (cap := N) (by rw [fl_len]; exact hr) k (by rw [fl_len]; exact hk2)
      rw [fl_get _ _ _ hk2] at e2
      have f2 := hr.frozen (by rw [fl_len]) k
      have HST := Lib.hid (hr.store (by rw [fl_len]) k (oc c i k + 1))
      have HUP := Lib.hid (HSU.out i k hk)
      have hbd := HBD.out i k
      have HBW := Lib.hid hbw
      clear hr hbw hcl hte hk
      generalize hxx : oc c i k = x at *
      clear hxx
      have hwr : IntKind.i64.wrap (x + 1) = x + 1 := IntWalk.i64_in _ (by omega)
      go_wp2_with fail
      refine (idClo _ _).mono ?_
      rintro e w5 ⟨rfl, rfl⟩
      go_wp2
      go_roundw
      case rel =>
        refine ⟨i + 1, by omega, by go_num, ?_, by simp; omega, HBW.out.setCell (Nat.le_refl _) _⟩
        rw [HUP.out, ← fl_set]
        exact HST.out
      case measure => (simp [intOf]; try omega)
    · obtain rfl : n = i := by omega
      have HRr := Lib.hid hr
      have HBW := Lib.hid hbw
      clear hr hbw
      go_wp2
      go_ret
      exact ⟨_, rfl, Nat.le_refl _, hgl', HRr.out, HBW.out⟩
set_option maxRecDepth 100000 in
set_option maxHeartbeats 4000000 in
/-- impl.spread.hasOnly. -/
theorem hasOnlyE (N : Nat) (v u : Value) (c : Nat → Int) (L : List Int) (w : World) (hv : Sl w v (fl c N)) (hu : Sl w u L) (hL : L.length ≤ 1000) (h0 : 1 ≤ N ∧ N ≤ 17) :
    Calls Try.prog 53 #[v, u] w fun e w' => e = .returned (.bool (ho c L N)) ∧ w = w' := by
  obtain ⟨b, off, cap, rfl, hb, hcc⟩ := hv.open (n := N) (by rw [fl_len]) (by omega)
  have HC : Hid (∀ j, j < N → w.cell? ⟨b, off + j, none⟩ = some (.int .i64 (c j))) := Lib.hid fun j hj => by
    rw [hcc j hj, fl_get _ _ _ hj]
  have HK := Lib.hid (fun x : Int => containsI u L x w hu hL)
  have HYES : Hid ((∀ j, j < N → 0 < c j → L.contains (j : Int) = true) → ho c L N = true) := Lib.hid (ho_iff N).2
  have HNO : Hid (∀ j, j < N → 0 < c j → L.contains (j : Int) = false → ho c L N = false) := Lib.hid fun j hj h1 h2 => by
    cases e : ho c L N with
    | false => rfl
    | true => have := (ho_iff N).1 e j hj h1; rw [h2] at this; cases this
  obtain ⟨a2, cp2, rfl⟩ := hu.form
  clear hv hu hcc
  generalize ho c L N = ans at *
  obtain ⟨P, hP⟩ : ∃ P : Nat → Bool, ∀ j : Nat, L.contains (j : Int) = P j := ⟨_, fun _ => rfl⟩
  have HKK : Hid (∀ j : Nat, Calls Try.prog 87 #[.slice a2 L.length cp2, .int .i64 (j : Int)] w fun e w' => e = .returned (.bool (P j)) ∧ w = w') := Lib.hid fun j => by
    have := HK.out (j : Int)
    rw [hP] at this
    exact this
  simp only [hP] at HYES HNO
  clear HK hP
  generalize L.length = nl at *
  go_enter Try.func53, Try.ntmps53
  go_wp2_with fail
  go_loopw [9] (fun vi wr => ∃ i : Nat, i ≤ N ∧ vi = .int .i64 i ∧ (∀ j, j < i → 0 < c j → P j = true) ∧ wr = w) (fun vi _ => N - (intOf vi).toNat)
  case atStart => exact ⟨0, Nat.zero_le _, rfl, fun j hj => absurd hj (Nat.not_lt_zero _), rfl⟩
  case round =>
    obtain ⟨i, hin, rfl, hok, rfl⟩ := hrel
    have HOK := Lib.hid hok; clear hok
    by_cases hlt : i < N
    · have hci := HC.out i hlt
      have HNi := Lib.hid (HNO.out i hlt)
      have HKi := Lib.hid (HKK.out i)
      by_cases hp : 0 < c i
      · cases hk : P i with
        | true =>
          rw [hk] at HKi
          have HG : Hid (∀ j, j < i + 1 → 0 < c j → P j = true) := Lib.hid fun j hj h1 => by
            by_cases e : j = i
            · subst e; exact hk
            · exact HOK.out j (by omega) h1
          clear hk HNi
          generalize c i = x at *
          go_wp2_with fail
          refine HKi.out.mono ?_
          rintro e w5 ⟨rfl, rfl⟩
          go_wp2
          go_roundw
          case rel => exact ⟨i + 1, by omega, by go_num, HG.out, by first | rfl | trivial⟩
          case measure => (simp [intOf]; try omega)
        | false =>
          rw [hk] at HKi
          have HG := Lib.hid (HNi.out hp hk)
          clear hk HNi
          generalize c i = x at *
          go_wp2_with fail
          refine HKi.out.mono ?_
          rintro e w5 ⟨rfl, rfl⟩
          go_wp2
          go_ret
          exact ⟨by (rw [HG.out]; try rfl), rfl⟩
      · have HG : Hid (∀ j, j < i + 1 → 0 < c j → P j = true) := Lib.hid fun j hj h1 => by
          by_cases e : j = i
          · subst e; exact absurd h1 hp
          · exact HOK.out j (by omega) h1
        clear HNi
        generalize c i = x at *
        go_wp2
        go_roundw
        case rel => exact ⟨i + 1, by omega, by go_num, HG.out, by first | rfl | trivial⟩
        case measure => (simp [intOf]; try omega)
    · obtain rfl : N = i := by omega
      have HG : Hid (ans = true) := Lib.hid (HYES.out HOK.out)
      go_wp2
      go_ret
      exact ⟨by (rw [HG.out]; try rfl), rfl⟩
set_option maxRecDepth 100000 in
set_option maxHeartbeats 4000000 in
/-- impl.spread.greatest. -/
theorem greatestE (m : Nat) (v : Value) (c : Nat → Int) (w : World) (hv : Sl w v (fl c (m + 1))) (hm : m ≤ 16) (hsome : c (gr c m) ≠ 0) :
    Calls Try.prog 51 #[v] w fun e w' => e = .returned (.int .i64 (gr c m)) ∧ w = w' := by
  obtain ⟨b, off, cap, rfl, hb, hcc⟩ := hv.open (n := m + 1) (by rw [fl_len]) (by omega)
  have HC : Hid (∀ j, j < m + 1 → w.cell? ⟨b, off + j, none⟩ = some (.int .i64 (c j))) := Lib.hid fun j hj => by
    rw [hcc j hj, fl_get _ _ _ hj]
  have HSO := Lib.hid hsome
  clear hv hcc hsome
  have hw1 : IntKind.i64.wrap (((m + 1 : Nat) : Int) - 1) = (m : Int) := by rw [IntWalk.i64_in _ (by omega)]; omega
  have hw2 : IntKind.i64.wrap ((m : Int) + 1 - 1) = (m : Int) := by rw [IntWalk.i64_in _ (by omega)]; omega
  go_enter Try.func51, Try.ntmps51
  go_wp2_with fail
  go_loopw [3] (fun vi wr => ∃ i : Nat, i ≤ m ∧ vi = .int .i64 i ∧ gr c i = gr c m ∧ wr = w) (fun vi _ => (intOf vi).toNat)
  case atStart => exact ⟨m, Nat.le_refl _, by first | rfl | simp, rfl, rfl⟩
  case round =>
    obtain ⟨i, hin, rfl, hgr, rfl⟩ := hrel
    have hci := HC.out i (by omega)
    by_cases h0 : c i = 0
    · have hi0 : i ≠ 0 := fun e => by
        subst e
        have : gr c m = 0 := hgr.symm
        have h2 := HSO.out
        rw [this] at h2
        exact h2 h0
      obtain ⟨k, rfl⟩ : ∃ k, i = k + 1 := ⟨i - 1, by omega⟩
      have HG : Hid (gr c k = gr c m) := Lib.hid (by rw [← hgr, gr_no h0])
      rw [h0] at hci
      clear h0 hgr
      have hwk : IntKind.i64.wrap (((k + 1 : Nat) : Int) - 1) = (k : Int) := by rw [IntWalk.i64_in _ (by omega)]; omega
      go_wp2
      go_roundw
      case rel => exact ⟨k, by omega, by go_num, HG.out, by first | rfl | trivial⟩
      case measure => (simp [intOf]; try omega)
    · have HG : Hid (gr c m = i) := Lib.hid (by rw [← hgr, gr_yes h0])
      have h0' : (c i == 0) = false := by simpa using h0
      clear hgr h0
      generalize c i = y at *
      go_wp2
      go_ret
      exact ⟨by rw [HG.out]; rfl, rfl⟩
end Go.Proofs.Ytgndlpdcebmgmaa
