/- Remainders; RemainderPoly, of both, by contracts; the walk of its law. -/
import Derived.Test.YtlhcokblbkiafabTG
import Derived.Deep.RegionHeld3
namespace Go.Proofs.Ytlhcokblbkiafab
open Go.RowKit
/-- How long a slice is. -/
def lenOf : Value → Nat
  | .slice _ n _ => n
  | _ => 0
theorem Row.len {w : World} {B : Nat} {v : Value} {l : List Int} (h : Row w B v l) : lenOf v = l.length := by
  obtain ⟨a, c, rfl⟩ := h.sl.form
  rfl
theorem pg_top {m : Nat} {l : List Int} (h : PG (m : Int) l) (h0 : 0 < l.length) : cfs l (l.length - 1) ≠ 0 := h.top h0
set_option maxRecDepth 100000 in
set_option maxHeartbeats 4000000 in
/-- spec.ctRest. -/
theorem ctRest_any (m : Nat) (v1 v2 : Value) (l g : List Int) (w : World) (h : isSz (m : Int) = true) (hv1 : Sl w v1 l) (hv2 : Sl w v2 g) (hl : PG (m : Int) l) (hg : PG (m : Int) g) (h0 : 0 < g.length) :
    Calls Try.prog 37 #[.int .i64 m, v1, v2] w fun e w' => ∃ v', e = .returned v' ∧ Row w' w.heap.size v' (remL m l g) ∧ Below w.heap.size w w' := by
  have hq := isSz_le (m : Int) h
  have hll := hl.le
  have hgl := hg.le
  have htop := pg_top hg h0
  have HOWN := Lib.hid (l1Own_sl v1 l w hv1 (by omega))
  obtain ⟨b, off, cg, rfl, hb0, hcg⟩ := hv2.open rfl h0
  have HCG : Hid (∀ j, j < g.length → w.cell? ⟨b, off + j, none⟩ = some (.int .i64 (cfs g j))) := Lib.hid hcg
  have HINV : Hid (∀ w, Calls Try.prog 55 #[.int .i64 m, .int .i64 (cfs g (g.length - 1))] w fun e w' => e = .returned (.int .i64 (invF m (cfs g (g.length - 1)))) ∧ Below w.heap.size w w') := Lib.hid fun w => fdInverse_any (m : Int) _ w h (hg.el _).1 (hg.el _).2
  have HT1 : Hid (∀ y, El (m : Int) y → ∀ w, Calls Try.prog 56 #[.int .i64 m, .int .i64 y, .int .i64 (invF m (cfs g (g.length - 1)))] w fun e w' => e = .returned (.int .i64 (mulF m y (invF m (cfs g (g.length - 1))))) ∧ Below w.heap.size w w') := Lib.hid fun y hy w => fdTimes_any (m : Int) y _ w h hy.1 hy.2 ((hg.el _).inv' h).1 ((hg.el _).inv' h).2
  have HTE : Hid (∀ y, El (m : Int) y → El (m : Int) (mulF m y (invF m (cfs g (g.length - 1))))) := Lib.hid fun y hy => hy.mul h ((hg.el _).inv' h)
  have HT2 : Hid (∀ t, El (m : Int) t → ∀ j w, Calls Try.prog 56 #[.int .i64 m, .int .i64 t, .int .i64 (cfs g j)] w fun e w' => e = .returned (.int .i64 (mulF m t (cfs g j))) ∧ Below w.heap.size w w') := Lib.hid fun t ht j w => fdTimes_any (m : Int) t _ w h ht.1 ht.2 (hg.el j).1 (hg.el j).2
  have HLS : Hid (∀ t, El (m : Int) t → ∀ y, El (m : Int) y → ∀ j w, Calls Try.prog 62 #[.int .i64 m, .int .i64 y, .int .i64 (mulF m t (cfs g j))] w fun e w' => e = .returned (.int .i64 (subF m y (mulF m t (cfs g j)))) ∧ Below w.heap.size w w') := Lib.hid fun t ht y hy j w => fdLess_any (m : Int) y _ w h hy.1 hy.2 (ht.mul h (hg.el j)).1 (ht.mul h (hg.el j)).2
  have HSTE : Hid (∀ F, (∀ i, El (m : Int) (F i)) → ∀ t, El (m : Int) t → ∀ o i j, El (m : Int) (sti m F (cfs g) o t i j)) := Lib.hid fun F hF t ht o i j => sti_el h hF hg.el ht o i j
  have HSTP : Hid (∀ N F, (∀ i, El (m : Int) (F i)) → g.length ≤ N + 1 → rml m (cfs g) g.length (sn (sti m F (cfs g) (N + 1 - g.length) (mulF m (F N) (invF m (cfs g (g.length - 1)))) g.length) (N + 1)) (sti m F (cfs g) (N + 1 - g.length) (mulF m (F N) (invF m (cfs g (g.length - 1)))) g.length) = rml m (cfs g) g.length (N + 1) F ∧
      sn (sti m F (cfs g) (N + 1 - g.length) (mulF m (F N) (invF m (cfs g (g.length - 1)))) g.length) (N + 1) ≤ N) := Lib.hid fun N F hF hk => rml_step h hF hg.el h0 hk htop
  have HEND : Hid (∀ N F, N < g.length → sn F N = N → rml m (cfs g) g.length N F = fl F N) := Lib.hid fun N F hN hs => by rw [rml_end hN, hs]
  have HSH := Lib.hid (fun v' n F w' B (hr : Row w' B v' (fl F n)) (hn : n ≤ 1000) => plShort_row v' n B F w' hr hn)
  have HST0 : Hid (∀ F o t, sti m F (cfs g) o t 0 = F) := Lib.hid fun F o t => sti_zero (m : Int) F (cfs g) o t
  have HSTA : Hid (∀ F o t i, sti m F (cfs g) o t i (o + i) = F (o + i)) := Lib.hid fun F o t i => sti_at (m : Int) F (cfs g) o t i
  have HSTS : Hid (∀ F o t i, sti m F (cfs g) o t (i + 1) = upd (sti m F (cfs g) o t i) (o + i) (subF m (F (o + i)) (mulF m t (cfs g i)))) := Lib.hid fun F o t i => sti_succ (m : Int) F (cfs g) o t i
  have HL0 : Hid (∀ i, El (m : Int) (cfs l i)) := Lib.hid hl.el
  have HSL : Hid (sn (cfs l) l.length = l.length) := Lib.hid (sn_full (by by_cases e : l.length = 0; exact .inl e; exact .inr (pg_top hl (by omega))))
  have HFL : Hid (l = fl (cfs l) l.length) := Lib.hid (fl_of l)
  have HIDEM : Hid (∀ F n, sn F (sn F n) = sn F n) := Lib.hid sn_idem
  unfold remL
  clear h hv1 hl hg htop hcg hv2
  generalize invF (m : Int) (cfs g (g.length - 1)) = iv at *
  generalize sti (m : Int) = ST at *
  generalize rml (m : Int) = RM at *
  generalize cfs g = G at *
  generalize g.length = k at *
  generalize cfs l = c0 at *
  have hk1 : ((k : Int) - 1) = ((k - 1 : Nat) : Int) := by omega
  have hcl := HCG.out (k - 1) (by omega)
  go_enter Try.func37, Try.ntmps37
  go_wp2_with fail
  refine HOWN.out.mono ?_
  rintro e w1 ⟨v1', rfl, hr1, hb1⟩
  have hz1 := hb1.size
  rw [HFL.out] at hr1
  have HR1 := Lib.hid hr1
  have HB1 := Lib.hid hb1
  have hcl1 := (hb1.cell (p := ⟨b, off + (k - 1), none⟩) hb0).trans hcl
  clear hr1 hb1 hcl
  have hwk : IntKind.i64.wrap ((k : Int) - 1) = ((k - 1 : Nat) : Int) := by rw [IntWalk.i64_in _ (by omega)]; exact hk1
  clear hk1
  go_wp2_with fail
  refine (HINV.out _).mono ?_
  rintro e w2 ⟨rfl, hb2⟩
  have HR2 := Lib.hid (HR1.out.below hb2)
  have HB2 : Hid (Below w.heap.size w w2) := Lib.hid (HB1.out.trans (hb2.mono hz1))
  clear hb2 hcl1
  go_wp2_with fail
  go_loopw [7] (fun vo wr => ∃ (N : Nat) (F : Nat → Int), N ≤ 16 ∧ (∀ i, El (m : Int) (F i)) ∧ sn F N = N ∧ RM G k N F = RM G k l.length c0 ∧ lenOf vo = N ∧ Row wr w.heap.size vo (fl F N) ∧ Below w.heap.size w wr) (fun vo _ => lenOf vo)
  case atStart => exact ⟨l.length, c0, by omega, HL0.out, HSL.out, rfl, by rw [HR2.out.len, fl_len], HR2.out, HB2.out⟩
  case round =>
    obtain ⟨N, F, hN, hF, hsn, hres, hlen, hr, hb⟩ := hrel
    obtain ⟨wo, rfl⟩ : ∃ x : World, x = wr := ⟨_, rfl⟩
    have hzb := hb.size
    have HRES := Lib.hid hres
    have HF := Lib.hid hF
    have HSN := Lib.hid hsn
    clear hres hF hsn
    rcases hr.how with ⟨rfl, hn0⟩ | ⟨gg, cp, rfl, hgg⟩
    · rw [fl_len] at hn0
      subst hn0
      have hlt : ¬ ((k : Int) ≤ 0) := by omega
      have HE : Hid (RM G k l.length c0 = []) := Lib.hid (by rw [← HRES.out, HEND.out 0 F h0 rfl]; rfl)
      have HB := Lib.hid hb
      clear hb hr
      go_wp2
      go_ret
      exact ⟨_, rfl, by rw [HE.out]; exact Row.nil _ _, HB.out⟩
    · rw [fl_len] at hr ⊢
      by_cases hkN : k ≤ N
      · obtain ⟨d, hd⟩ : ∃ d, d + 1 = N := ⟨N - 1, by omega⟩
        have hd1 : IntKind.i64.wrap ((N : Int) - 1) = (d : Int) := by rw [IntWalk.i64_in _ (by omega)]; omega
        have hoo : IntKind.i64.wrap ((N : Int) - (k : Int)) = ((N - k : Nat) : Int) := by rw [IntWalk.i64_in _ (by omega)]; omega
        have hge : ((k : Int) ≤ (N : Int)) := by omega
        obtain ⟨hst1, hst2⟩ := HSTP.out d F HF.out (by omega)
        rw [hd] at hst1 hst2
        have HST1 := Lib.hid hst1
        have HST2 := Lib.hid hst2
        have HFD := Lib.hid (HF.out d)
        have HTd := Lib.hid (HT1.out (F d) HFD.out)
        have HTEd := Lib.hid (HTE.out (F d) HFD.out)
        have hdlt : d < N := by omega
        clear hst1 hst2
        obtain ⟨o, ho⟩ : ∃ o, N - k = o := ⟨_, rfl⟩
        rw [ho] at hoo
        simp only [ho] at HST1 HST2
        have HCE : Hid (∀ w', Row w' w.heap.size (.slice (some ⟨gg, 0, none⟩) N cp) (fl F N) → w'.cell? ⟨gg, d, none⟩ = some (.int .i64 (F d))) := Lib.hid fun w' hr' => by
          have := Row.cell (l := fl F N) (cap := cp) (by rw [fl_len]; exact hr') d (by rw [fl_len]; omega)
          rwa [fl_get _ _ _ (by omega)] at this
        have hcd := HCE.out wo hr
        have HR := Lib.hid hr
        have HB := Lib.hid hb
        clear hr hb HCE
        generalize mulF (m : Int) (F d) iv = tt at *
        generalize hFd : F d = y at *
        clear hFd hd
        go_wp2_with fail
        refine (HTd.out _).mono ?_
        rintro e w3 ⟨rfl, hb3⟩
        have hz3 := hb3.size
        have HR3 := Lib.hid (HR.out.below hb3)
        have HB3 : Hid (Below w.heap.size w w3) := Lib.hid (HB.out.trans (hb3.mono hzb))
        clear hb3 hcd
        have hz3' := HB3.out.size
        go_wp2_with fail
        have HTT2 := Lib.hid (HT2.out tt HTEd.out)
        have HLS2 := Lib.hid (HLS.out tt HTEd.out)
        have HA := Lib.hid (HSTA.out F o tt)
        have HS := Lib.hid (HSTS.out F o tt)
        have H0 := Lib.hid (HST0.out F o tt)
        have HZEL := Lib.hid (HSTE.out F HF.out tt HTEd.out o)
        generalize ST F G o tt = Z at *
        go_loopw [44] (fun vi ws => ∃ i : Nat, i ≤ k ∧ vi = .int .i64 i ∧ Row ws w.heap.size (.slice (some ⟨gg, 0, none⟩) N cp) (fl (Z i) N) ∧ gg < ws.heap.size ∧ Below w.heap.size w ws) (fun vi _ => k - (intOf vi).toNat)
        case atStart => exact ⟨0, Nat.zero_le _, rfl, by rw [H0.out]; exact HR3.out, by omega, HB3.out⟩
        case round =>
          obtain ⟨i, hik, rfl, hri, hgi, hbi⟩ := hrel
          have hzi := hbi.size
          by_cases hlt : i < k
          · have hcg := (hbi.cell (p := ⟨b, off + i, none⟩) hb0).trans (HCG.out i hlt)
            have hoi : o + i < N := by omega
            have hci : wr.cell? ⟨gg, o + i, none⟩ = some (.int .i64 (F (o + i))) := by
              have := Row.cell (l := fl (Z i) N) (cap := cp) (by rw [fl_len]; exact hri) (o + i) (by rw [fl_len]; omega)
              rw [fl_get _ _ _ hoi, HA.out i] at this
              exact this
            have hfz : wr.frozen? ⟨gg, o + i, none⟩ = false := hri.frozen (by rw [fl_len]) _
            have HX1 := Lib.hid (HTT2.out i)
            have HX2 := Lib.hid (HLS2.out (F (o + i)) (HF.out _) i)
            have HSS := Lib.hid (HS.out i)
            have HRI := Lib.hid hri
            have HBI := Lib.hid hbi
            have hz : (o : Int) + (i : Int) = ((o + i : Nat) : Int) := by omega
            clear hri hbi
            generalize mulF (m : Int) tt (G i) = x1 at *
            generalize F (o + i) = x0 at *
            generalize G i = x3 at *
            generalize subF (m : Int) x0 x1 = x2 at *
            generalize hoi' : o + i = oi at *
            have HOI := Lib.hid hoi'
            clear hoi'
            have hwr : IntKind.i64.wrap (oi : Int) = (oi : Int) := IntWalk.i64_in _ (by omega)
            have hw1 : (oi : Int) < (N : Int) := by omega
            have hw2 : ¬ (N : Int) ≤ (oi : Int) := by omega
            go_wp2_with fail
            go_region_with (first
              | (go_at_call 56; refine (HX1.out _).mono ?_; rintro e w5 ⟨rfl, hb5⟩; obtain ⟨hc5, hf5⟩ := bcell hb5; (try simp only [World.size_drew] at hc5 hf5); have hz5 := hb5.size; (try simp at hz5); have HB5 := Lib.hid hb5; clear hb5; have l5 : gg < w5.heap.size := (by omega))
              | (go_at_call 62; refine (HX2.out _).mono ?_; rintro e w6 ⟨rfl, hb6⟩; obtain ⟨hc6, hf6⟩ := bcell hb6; (try simp only [World.size_drew] at hc6 hf6); have hz6 := hb6.size; (try simp at hz6); have HB6 := Lib.hid hb6; clear hb6; have l6 : gg < w6.heap.size := (by omega)))
            all_goals
              have hb5 := HB5.out
              have hb6 := HB6.out
              have hbw : Below wr.heap.size wr w6 := by (repeat' (first | (with_reducible assumption) | (with_reducible exact Below.refl _ _) | (with_reducible refine below_drewN ?_ _) | (with_reducible refine Below.drew ?_) | (with_reducible refine Below.alloc ?_ ?_ _) | (with_reducible refine Below.setCell ?_ ?_ _) | (with_reducible refine Below.trans ?_ (Below.mono (by assumption) ?_)) | (with_reducible exact Nat.le_refl _) | (with_reducible assumption) | omega | (simp; omega) | (simp; done)))
              have hzw := hbw.size
              have hr6 : Row w6 w.heap.size (.slice (some ⟨gg, 0, none⟩) N cp) (fl (Z i) N) := HRI.out.below hbw
              have hr7 := hr6.store (by rw [fl_len]) oi x2
              rw [fl_set, ← HSS.out] at hr7
              have HR7 := Lib.hid hr7
              have HB7 : Hid (Below w.heap.size w (w6.setCell ⟨gg, oi, none⟩ (.int .i64 x2))) := Lib.hid (Below.setCell (HBI.out.trans (hbw.mono hzi)) (HRI.out.lt gg rfl).1 _)
              clear hr6 hr7 hbw hb5 hb6
              go_wp2
              go_roundw
              case rel => exact ⟨i + 1, by omega, by go_num, HR7.out, by simp; omega, HB7.out⟩
              case measure => simp [intOf]; omega
          · obtain rfl : k = i := by omega
            have hnot : ¬ ((k : Int) < (k : Int)) := by omega
            have HS1 := Lib.hid (HSH.out _ N (Z k) wr _ hri (by omega))
            have HBI := Lib.hid hbi
            have HZE : Hid (∀ i, El (m : Int) (Z k i)) := Lib.hid (fun j => HZEL.out k j)
            clear hri hbi
            go_wp2_with fail
            refine HS1.out.mono ?_
            rintro e w5 ⟨v5, rfl, hr5, hb5⟩
            have HR5 := Lib.hid (hr5.mono hzi)
            have HB5 : Hid (Below w.heap.size w w5) := Lib.hid (HBI.out.trans (hb5.mono hzi))
            have hlen5 : lenOf v5 = sn (Z k) N := by rw [hr5.len, fl_len]
            have hle5 := HST2.out
            clear hr5 hb5
            go_wp2
            go_roundw
            case rel => exact ⟨sn (Z k) N, Z k, by omega, HZE.out, HIDEM.out _ _, by rw [HST1.out]; exact HRES.out, hlen5, HR5.out, HB5.out⟩
            case measure => rw [hlen5]; simp only [lenOf]; omega
      · have hlt : ¬ ((k : Int) ≤ (N : Int)) := by omega
        have HE : Hid (RM G k l.length c0 = fl F N) := Lib.hid (by rw [← HRES.out, HEND.out N F (by omega) HSN.out])
        have HR := Lib.hid hr
        have HB := Lib.hid hb
        clear hb hr
        go_wp2
        go_ret
        exact ⟨_, rfl, by rw [HE.out]; exact HR.out, HB.out⟩
end Go.Proofs.Ytlhcokblbkiafab
