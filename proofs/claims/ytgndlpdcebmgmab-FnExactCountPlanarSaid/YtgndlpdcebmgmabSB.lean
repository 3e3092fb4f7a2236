/- The model's differences: dfTable, dfAsked, dfSpread, dfMost, by contracts. -/
import Derived.Test.YtgndlpdcebmgmabSA
import Derived.Test.YtgndlpdcebmgmabOB
import Derived.Test.YtgndlpdcebmgmabKL
namespace Go.Proofs.Ytgndlpdcebmgmab
open Go.RowKit
set_option maxRecDepth 100000 in
set_option maxHeartbeats 4000000 in
/-- spec.dfTable. -/
theorem dfTable_any (m a : Nat) (v : Value) (t : Nat → Int) (w : World) (h : isSz (m : Int) = true) (hv : Sl w v (fl t m)) (ht : ∀ i, i < m → El (m : Int) (t i)) (ha : a < m) :
    Calls Try.prog 117 #[.int .i64 m, v, .int .i64 a] w fun e w' => ∃ v', e = .returned v' ∧ Row w' w.heap.size v' (fl (dft m t a) m) ∧ Below w.heap.size w w' := by
  obtain ⟨i0, hi, iz0, iz1, iz2⟩ := info_parts Try.infoI
  have hq := isSz_le (m : Int) h
  obtain ⟨b, off, cap, rfl, hb, hcc⟩ := hv.open (n := m) (by rw [fl_len]) (by omega)
  have HC : Hid (∀ w', Below w.heap.size w w' → ∀ j, j < m → w'.cell? ⟨b, off + j, none⟩ = some (.int .i64 (t j))) := Lib.hid fun w' hbw j hj => by
    rw [hbw.cell (p := ⟨b, off + j, none⟩) hb, hcc j hj, fl_get _ _ _ hj]
  have HP := Lib.hid (fun (x : Nat) (hx : x < m) w => fdPlus_any (m : Int) (x : Int) (a : Int) w h (by omega) (by omega) (by omega) (by omega))
  have HL := Lib.hid (fun (x : Nat) (hx : x < m) w => fdLess_any (m : Int) (t (addF m x a).toNat) (t x) w h (ht _ (addN_lt h hx ha)).1 (ht _ (addN_lt h hx ha)).2 (ht x hx).1 (ht x hx).2)
  have HA := Lib.hid (fun (x : Nat) (hx : x < m) => El.add h (El.nat hx) (El.nat ha))
  have HD : Hid (∀ x : Nat, subF m (t (addF m x a).toNat) (t x) = dft m t a x) := Lib.hid fun _ => rfl
  have HSUC := Lib.hid (fl_succ (dft m t a))
  clear h hv hcc ht
  generalize dft m t a = D at *
  go_enter Try.func117, Try.ntmps117
  go_wp2_with fail
  go_loopw [7, 12] (fun vo vi wr => ∃ i : Nat, i ≤ m ∧ vi = .int .i64 i ∧ Row wr w.heap.size vo (fl D i) ∧ Below w.heap.size w wr) (fun _ vi _ => m - (intOf vi).toNat)
  case atStart => exact ⟨0, Nat.zero_le _, rfl, Row.nil _ _, Below.refl _ _⟩
  case round =>
    obtain ⟨i, hin, rfl, hr, hbw⟩ := hrel
    have HR := Lib.hid hr; clear hr
    have hz := hbw.size
    have HBW := Lib.hid hbw; clear hbw
    by_cases hlt : i < m
    · have hci := HC.out _ HBW.out i hlt
      have hbl : b < wr.heap.size := by omega
      have HPi := Lib.hid (fun w => HP.out i hlt w)
      have HLi := Lib.hid (fun w => HL.out i hlt w)
      have HSi := Lib.hid (HSUC.out i)
      have hai := HA.out i hlt
      have HDi := HD.out i
      obtain ⟨s, hs⟩ := Int.eq_ofNat_of_zero_le hai.1
      have hsm : s < m := by have := hai.2; omega
      clear hai
      rw [hs, Int.toNat_natCast] at HDi
      rw [hs] at HPi HLi
      rw [Int.toNat_natCast, HDi] at HLi
      have HCS := Lib.hid (fun w' hb => HC.out w' hb s hsm)
      clear hs HDi
      generalize t s = y at *
      generalize t i = x at *
      generalize D i = z at *
      go_wp2_with fail
      refine (HPi.out _).mono ?_
      rintro e w1 ⟨rfl, hb1⟩
      have hz_hb1 := hb1.size; (try simp at hz_hb1)
      have HB1 := Lib.hid hb1; clear hb1
      have HBW1 : Hid (Below w.heap.size w w1) := Lib.hid (by have hb0 := HBW.out; have hb1 := HB1.out; (repeat' (first | (with_reducible assumption) | (with_reducible exact Below.refl _ _) | (with_reducible refine below_drewN ?_ _) | (with_reducible refine Below.drew ?_) | (with_reducible refine Below.alloc ?_ ?_ _) | (with_reducible refine Below.setCell ?_ ?_ _) | (with_reducible refine Below.trans ?_ (Below.mono (by assumption) ?_)) | (with_reducible exact Nat.le_refl _) | (with_reducible assumption) | omega | (simp; omega) | (simp; done))))
      have hcs := HCS.out _ HBW1.out
      have hbl1 : b < w1.heap.size := by omega
      go_wp2_with fail
      refine (HLi.out _).mono ?_
      rintro e w2 ⟨rfl, hb2⟩
      have hz_hb2 := hb2.size; (try simp at hz_hb2)
      have HB2 := Lib.hid hb2; clear hb2
      have HBW2 : Hid (Below w.heap.size w w2) := Lib.hid (by have hb0 := HBW1.out; have hb1 := HB2.out; (repeat' (first | (with_reducible assumption) | (with_reducible exact Below.refl _ _) | (with_reducible refine below_drewN ?_ _) | (with_reducible refine Below.drew ?_) | (with_reducible refine Below.alloc ?_ ?_ _) | (with_reducible refine Below.setCell ?_ ?_ _) | (with_reducible refine Below.trans ?_ (Below.mono (by assumption) ?_)) | (with_reducible exact Nat.le_refl _) | (with_reducible assumption) | omega | (simp; omega) | (simp; done))))
      have HR2 := Lib.hid ((HR.out.below HB1.out).below HB2.out)
      go_wp2_with (at_builtin; refine wpList_append_own _ rfl _ _ 25 rfl w.heap.size 3 i0 (.int .i64 0) 1 8 Try.underlying25 hi iz0 iz1 iz2 rfl (by decide) _ _ _ rfl (World.ownsRow.alloc HR2.out _) ⟨w2.heap.size, 0, none⟩ 1 1 [.int .i64 z] rfl rfl ?c1 ?c2 ?c3 ?c4 ?c5 ?_)
      case c1 => exact cell_one_new _ _ _
      case c2 => first | rfl | (intro u hu; simp at hu; subst hu; rfl)
      case c3 => rw [fl_len]; unfold maxLen; omega
      case c4 => rw [fl_len]; omega
      case c5 => first | omega | (simp; omega)
      intro v' w6 hown hgrow _
      have HR6 := Lib.hid (Row.appended hown)
      have hb6 : Below w.heap.size w (w2.alloc (.cells #[.int .i64 z] 3)) := HBW2.out.alloc (by have := HBW2.out.size; omega) _
      have HB6 := Lib.hid (hb6.grown hgrow (by have := HBW2.out.size; simp; omega) (fun g hg => (HR2.out.lt g hg).1))
      clear hown hgrow hb6
      go_wp2
      go_roundw
      case rel => exact ⟨i + 1, by omega, by go_num, by rw [HSi.out]; exact HR6.out, HB6.out⟩
      case measure => simp [intOf]; omega
    · obtain rfl : m = i := by omega
      go_wp2
      go_ret
      exact ⟨_, rfl, HR.out, HBW.out⟩
/-- The counts of the first groups, and of the first ones of the next. -/
theorem spr_step (m : Nat) (t : Nat → Int) (a b : Nat) (hb : b < m) {k : Nat} (hk : oc (dft m t (a + 1)) m b = (k : Int)) : oc (cfl m t) (a * m + (b + 1)) = upd (oc (cfl m t) (a * m + b)) k (oc (cfl m t) (a * m + b) k + 1) := by
  rw [show a * m + (b + 1) = a * m + b + 1 by omega]
  exact oc_succ _ _ _ (by rw [cfl_at t a b hb]; exact hk)
theorem part0_zN (m : Nat) : fl (part0 (fun _ => 0) 0) m = fl (fun _ => 0) m := fl_congr fun i _ => by simp [part0]
set_option maxRecDepth 100000 in
set_option maxHeartbeats 4000000 in
/-- spec.dfSpread. -/
theorem dfSpread_any (m : Nat) (v : Value) (t : Nat → Int) (w : World) (h : isSz (m : Int) = true) (hv : Sl w v (fl t m)) (ht : ∀ i, i < m → El (m : Int) (t i)) :
    Calls Try.prog 84 #[.int .i64 m, v] w fun e w' => ∃ g, e = .returned (.slice (some ⟨g, 0, none⟩) (m + 1 : Nat) (m + 1 : Nat)) ∧ w.heap.size ≤ g ∧ g < w'.heap.size ∧ Row w' w.heap.size (.slice (some ⟨g, 0, none⟩) (m + 1) (m + 1)) (fl (spr m t) (m + 1)) ∧ Below w.heap.size w w' := by
  obtain ⟨i0, hi, iz0, iz1, iz2⟩ := info_parts Try.infoI
  have hq := isSz_le (m : Int) h
  obtain ⟨ad, cp, ev⟩ := hv.form
  rw [fl_len] at ev
  subst ev
  have HT := Lib.hid (fun (a : Nat) (ha : a < m) w' (hb : Below w.heap.size w w') => dfTable_any m a _ t w' h (hv.below hb (Nat.le_refl _)) ht ha)
  obtain ⟨N, hN⟩ : ∃ N : Nat → Nat → Int, ∀ a, oc (dft m t a) m = N a := ⟨_, fun _ => rfl⟩
  obtain ⟨O, hO⟩ : ∃ O : Nat → Nat → Int, oc (cfl m t) = O := ⟨_, rfl⟩
  have HCO := Lib.hid (fun (a : Nat) (ha : a < m) v' w' (hs : Sl w' v' (fl (dft m t a) m)) => by
    have := vaCounts_any m m v' (dft m t a) w' (by omega) hs (fun i hi => dft_el h ht a ha i hi) (by omega)
    rw [hN] at this
    exact this)
  have HST : Hid (∀ a b, b < m → ∀ k : Nat, N (a + 1) b = (k : Int) → O (a * m + (b + 1)) = upd (O (a * m + b)) k (O (a * m + b) k + 1)) := Lib.hid fun a b hb k hk => by
    have := spr_step m t a b hb (k := k) (by rw [hN]; exact hk)
    rw [hO] at this
    exact this
  have HBD : Hid (∀ a b, 0 ≤ N a b ∧ N a b ≤ m) := Lib.hid fun a b => by
    have := oc_bd (dft m t a) m b
    rw [hN] at this
    exact this
  have HCB : Hid (∀ a b, 0 ≤ O a b ∧ O a b ≤ a) := Lib.hid fun a b => by
    have := oc_bd (cfl m t) a b
    rw [hO] at this
    exact this
  have HZ : Hid (O 0 = fun _ => 0) := Lib.hid (by rw [← hO]; rfl)
  have HML : Hid (∀ a b, a < m → b ≤ m → a * m + b ≤ 272) := Lib.hid fun a b ha hb => by
    have h1 : a * m ≤ 16 * 16 := Nat.mul_le_mul (by omega) (by omega)
    omega
  have HFIN : Hid (spr m t = O ((m - 1) * m)) := Lib.hid (by rw [← hO]; rfl)
  rw [HFIN.out]
  clear h ht hN hO HFIN
  clear hv
  go_enter Try.func84, Try.ntmps84
  have hwn : IntKind.i64.wrap ((m : Int) + 1) = ((m + 1 : Nat) : Int) := by rw [IntWalk.i64_in _ (by omega)]; omega
  go_wp2_with (at_make; refine wpList_make_full _ rfl _ _ 25 rfl w.heap.size 3 i0 (.int .i64 0) 1 Try.underlying25 hi iz0 iz1 .i64 .i64 _ _ (m + 1) rfl rfl (by simp) (by simp) ?c3 ?c4 ?c5 ?_)
  case c3 => rw [iz2]; omega
  case c4 => unfold maxLen; omega
  case c5 => omega
  intro w1 hown hgrow
  have HR : Hid (Row w1 w.heap.size (.slice (some ⟨w.heap.size, 0, none⟩) (m + 1) (m + 1)) (fl (O 0) (m + 1))) := Lib.hid (by
    have := Row.madeF (fun _ => 0) hown
    rw [part0_zN] at this
    rw [HZ.out]
    exact this)
  have HB := Lib.hid ((Below.refl w.heap.size w).grown hgrow (Nat.le_refl _) (fun k hk => by cases hk))
  have hgl : w.heap.size < w1.heap.size := (HR.out.lt w.heap.size rfl).2
  clear hown hgrow
  go_wp2_with fail
  go_loopw [6] (fun va wr => ∃ a A : Nat, A = a + 1 ∧ A ≤ m ∧ va = .int .i64 A ∧ Row wr w.heap.size (.slice (some ⟨w.heap.size, 0, none⟩) (m + 1) (m + 1)) (fl (O (a * m)) (m + 1)) ∧ w.heap.size < wr.heap.size ∧ Below w.heap.size w wr) (fun va _ => m - (intOf va).toNat)
  case atStart => exact ⟨0, 1, rfl, by omega, rfl, by rw [Nat.zero_mul]; exact HR.out, hgl, HB.out⟩
  case round =>
    obtain ⟨a, A, hA, hAm, rfl, hr, hgl', hbw⟩ := hrel
    have HRr := Lib.hid hr
    have HBW := Lib.hid hbw
    have hz := hbw.size
    have HA := Lib.hid hA
    have haA : a < A := by omega
    clear hr hbw hA
    by_cases hlt : A < m
    · have HSTA : Hid (∀ b, b < m → ∀ k : Nat, N A b = (k : Int) → O (a * m + (b + 1)) = upd (O (a * m + b)) k (O (a * m + b) k + 1)) := Lib.hid fun b hb k hk => HST.out a b hb k (by rw [← HA.out]; exact hk)
      have HML' := Lib.hid (fun b hb => HML.out a b (by omega) hb)
      have HNX : Hid (a * m + m = A * m) := Lib.hid (by rw [HA.out, Nat.succ_mul])
      have HP0 : Hid (a * m = a * m + 0) := Lib.hid rfl
      rw [HP0.out] at HRr
      clear HP0
      generalize a * m = P at *
      go_wp2_with fail
      refine (HT.out A hlt _ HBW.out).mono ?_
      rintro e w2 ⟨v2, rfl, hr2, hb2⟩
      have hz_hb2 := hb2.size; (try simp at hz_hb2)
      have HR2 := Lib.hid hr2
      have HB2 := Lib.hid hb2
      clear hr2 hb2
      go_wp2_with fail
      refine (HCO.out A hlt v2 _ HR2.out.sl).mono ?_
      rintro e w3 ⟨g3, rfl, hg3, hgl3, hr3, hb3⟩
      have hz_hb3 := hb3.size; (try simp at hz_hb3)
      have HCN : Hid (∀ j, j < m → w3.cell? ⟨g3, j, none⟩ = some (.int .i64 (N A j))) := Lib.hid fun j hj => by
        have := Row.cell (l := fl (N A) m) (cap := m) (by rw [fl_len]; exact hr3) j (by rw [fl_len]; exact hj)
        rwa [fl_get _ _ _ hj] at this
      have HR3 := Lib.hid ((HRr.out.below HB2.out).below hb3)
      have HB3 : Hid (Below w.heap.size w w3) := Lib.hid (by have hb0 := HBW.out; have hb2 := HB2.out; (repeat' (first | (with_reducible assumption) | (with_reducible exact Below.refl _ _) | (with_reducible refine below_drewN ?_ _) | (with_reducible refine Below.drew ?_) | (with_reducible refine Below.alloc ?_ ?_ _) | (with_reducible refine Below.setCell ?_ ?_ _) | (with_reducible refine Below.trans ?_ (Below.mono (by assumption) ?_)) | (with_reducible exact Nat.le_refl _) | (with_reducible assumption) | omega | (simp; omega) | (simp; done))))
      have hBD := HBD.out A
      have HBDA := Lib.hid hBD
      clear hBD hr3 hb3 HRr HR2
      generalize N A = n at *
      have hgw : w.heap.size < g3 := by omega
      have hgl4 : w.heap.size < w3.heap.size := by omega
      go_wp2_with fail
      go_loopw [24] (fun vj ws => ∃ j : Nat, j ≤ m ∧ vj = .int .i64 j ∧ Row ws w.heap.size (.slice (some ⟨w.heap.size, 0, none⟩) (m + 1) (m + 1)) (fl (O (P + j)) (m + 1)) ∧ (∀ j, j < m → ws.cell? ⟨g3, j, none⟩ = some (.int .i64 (n j))) ∧ g3 < ws.heap.size ∧ Below w.heap.size w ws) (fun vj _ => m - (intOf vj).toNat)
      case atStart => exact ⟨0, Nat.zero_le _, rfl, HR3.out, HCN.out, hgl3, HB3.out⟩
      case round =>
        obtain ⟨j, hj, rfl, hr, hcn, hgl5, hbs⟩ := hrel
        have HBS := Lib.hid hbs; clear hbs
        by_cases hlj : j < m
        · have hcj := hcn j hlj
          have HCN' := Lib.hid hcn
          have hbd := HBDA.out j
          obtain ⟨k, hk⟩ := Int.eq_ofNat_of_zero_le hbd.1
          have HUP := Lib.hid (HSTA.out j hlj k hk)
          have hk2 : k < m + 1 := by have := hbd.2; omega
          rw [hk] at hcj
          have hle := HML'.out j hj
          have hcb := HCB.out (P + j) k
          have e2 := Row.cell (l := fl (O (P + j)) (m + 1)) (cap := m + 1) (by rw [fl_len]; exact hr) k (by rw [fl_len]; exact hk2)
          rw [fl_get _ _ _ hk2] at e2
          have f2 := hr.frozen (by rw [fl_len]) k
          have HSTO := Lib.hid (hr.store (by rw [fl_len]) k (O (P + j) k + 1))
          clear hr hcn hbd hk
          obtain ⟨x, hx⟩ : ∃ x, O (P + j) k = x := ⟨_, rfl⟩
          rw [hx] at e2 HUP hcb HSTO
          clear hx
          have hwr : IntKind.i64.wrap (x + 1) = x + 1 := IntWalk.i64_in _ (by omega)
          have HKC : Hid (∀ y, ∀ j, j < m → (wr.setCell ⟨w.heap.size, k, none⟩ y).cell? ⟨g3, j, none⟩ = some (.int .i64 (n j))) := Lib.hid fun y j hj => by
            rw [← HCN'.out j hj]
            exact World.cell?_of_block (a := ⟨g3, j, none⟩) (heap_setCell_other _ _ _ _ (show g3 ≠ w.heap.size by omega))
          go_wp2
          go_roundw
          case rel =>
            refine ⟨j + 1, by omega, by go_num, ?_, ?_, by simp; omega, HBS.out.setCell (Nat.le_refl _) _⟩
            · rw [HUP.out, ← fl_set]
              exact HSTO.out
            · exact HKC.out _
          case measure => simp [intOf]; omega
        · obtain rfl : m = j := by omega
          have HRx := Lib.hid hr; clear hr
          clear hcn
          go_wp2
          go_roundw
          case rel => exact ⟨A, A + 1, rfl, by omega, by go_num, by rw [← HNX.out]; exact HRx.out, by omega, HBS.out⟩
          case measure => simp [intOf]; omega
    · obtain rfl : m = A := by omega
      have HFN : Hid (m - 1 = a) := Lib.hid (by have := HA.out; omega)
      go_wp2
      go_ret
      rw [HFN.out]
      exact ⟨_, rfl, Nat.le_refl _, hgl', HRr.out, HBW.out⟩
set_option maxRecDepth 100000 in
set_option maxHeartbeats 4000000 in
/-- spec.dfMost. -/
theorem dfMost_any (m : Nat) (v : Value) (t : Nat → Int) (w : World) (h : isSz (m : Int) = true) (hv : Sl w v (fl t m)) (ht : ∀ i, i < m → El (m : Int) (t i)) :
    Calls Try.prog 42 #[.int .i64 m, v] w fun e w' => e = .returned (.int .i64 (gr (spr m t) m)) ∧ Below w.heap.size w w' := by
  have hq := isSz_le (m : Int) h
  have HSP := Lib.hid (dfSpread_any m v t w h hv ht)
  have hsome := spr_some h ht
  obtain ⟨a, cap, ev⟩ := hv.form
  rw [fl_len] at ev
  subst ev
  clear h hv ht
  generalize spr m t = c at *
  have HSO := Lib.hid hsome
  clear hsome
  go_enter Try.func42, Try.ntmps42
  go_wp2_with fail
  refine HSP.out.mono ?_
  rintro e w1 ⟨g, rfl, hg, hgl, hr1, hb1⟩
  have HC : Hid (∀ j, j < m + 1 → w1.cell? ⟨g, j, none⟩ = some (.int .i64 (c j))) := Lib.hid fun j hj => by
    have := Row.cell (l := fl c (m + 1)) (cap := m + 1) (by rw [fl_len]; exact hr1) j (by rw [fl_len]; exact hj)
    rwa [fl_get _ _ _ hj] at this
  clear hr1
  go_wp2_with fail
  go_loopw [6] (fun vi wr => ∃ i : Nat, i ≤ m ∧ vi = .int .i64 i ∧ gr c i = gr c m ∧ wr = w1) (fun vi _ => (intOf vi).toNat)
  case atStart => exact ⟨m, Nat.le_refl _, rfl, rfl, rfl⟩
  case round =>
    obtain ⟨i, hin, rfl, hgr, rfl⟩ := hrel
    have hci := HC.out i (by omega)
    by_cases h0 : c i = 0
    · have hi0 : i ≠ 0 := fun e => by
        subst e
        have : gr c m = 0 := hgr.symm
        have h2 := HSO.out
        rw [this] at h2
        exact h2 h0
      obtain ⟨k, rfl⟩ : ∃ k, i = k + 1 := ⟨i - 1, by omega⟩
      have HG : Hid (gr c k = gr c m) := Lib.hid (by rw [← hgr, gr_no h0])
      rw [h0] at hci
      clear h0 hgr
      have hwk : IntKind.i64.wrap (((k + 1 : Nat) : Int) - 1) = (k : Int) := by rw [IntWalk.i64_in _ (by omega)]; omega
      go_wp2
      go_roundw
      case rel => exact ⟨k, by omega, by go_num, HG.out, by first | rfl | trivial⟩
      case measure => (simp [intOf]; try omega)
    · have HG : Hid (gr c m = i) := Lib.hid (by rw [← hgr, gr_yes h0])
      have h0' : (c i == 0) = false := by simpa using h0
      clear hgr h0
      generalize c i = y at *
      go_wp2
      go_ret
      exact ⟨by rw [HG.out]; rfl, hb1⟩
end Go.Proofs.Ytgndlpdcebmgmab
