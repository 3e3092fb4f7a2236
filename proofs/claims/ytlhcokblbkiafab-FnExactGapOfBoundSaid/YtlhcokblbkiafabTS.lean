/- impl.poly.remainder; RemainderPoly, of both, by contracts; the walk of its law. -/
import Derived.Test.YtlhcokblbkiafabTR
import Derived.Test.YtlhcokblbkiafabTM
import Derived.Test.YtlhcokblbkiafabKM
import Derived.Deep.RegionHeld3
namespace Go.Proofs.Ytlhcokblbkiafab
open Go.RowKit
theorem Els.likeT {w : World} {g n : Nat} {q : Int} {f f' : Nat → Int} (he : Els w g q f n) (h : ∀ i, i < n → f' i = f i) : Els w g q f' n := fun i hi => by
  rw [h i hi]; exact he i hi
theorem field_P (q : Int) (a : Option Addr) (n c : Nat) (w : World) : (Instr.field 40 (polyE q (.slice a n c)) 1).run Try.prog w = .ok (.slice a n c) w := by kernel_rfl
/-- The memory of remainder. -/
structure RMm (w0 wr : World) (m g3 g4 cap k : Nat) (H : Nat → Int) (v1 : Value) (N : Nat) (F : Nat → Int) : Prop where
  hp : wr.heap[w0.heap.size]? = some (pblk (m : Int) v1)
  hr : wr.heap[w0.heap.size + 2]? = some pzblk
  hk : Blk wr g3 cap
  he : Els wr g3 (m : Int) F N
  ht : Els wr g4 (m : Int) H k
  ne : g3 ≠ g4
  l3 : w0.heap.size + 2 < g3
  l4 : w0.heap.size + 2 < g4
  lt : g4 < wr.heap.size
  bel : Below w0.heap.size w0 wr
theorem RMm.below {w0 wr w' : World} {m g3 g4 cap k N B : Nat} {H F : Nat → Int} {v1 : Value} (h : RMm w0 wr m g3 g4 cap k H v1 N F) (hb : Below B wr w') (hB : wr.heap.size ≤ B) : RMm w0 w' m g3 g4 cap k H v1 N F := by
  have h1 := h.hk.lt
  have h2 := h.lt
  have h3 := h.l3
  have h4 := h.l4
  have h5 := h.bel.size
  have h6 := hb.size
  exact ⟨(hb.block _ (by omega)).trans h.hp, (hb.block _ (by omega)).trans h.hr, h.hk.below hb (by omega), h.he.below hb (by omega), h.ht.below hb (by omega), h.ne, h3, h4, by omega, h.bel.trans (hb.mono (by omega))⟩
theorem RMm.put {w0 wr : World} {m g3 g4 cap k N j : Nat} {H F : Nat → Int} {v1 : Value} (h : RMm w0 wr m g3 g4 cap k H v1 N F) (hj : j < N) (hN : N ≤ cap) (x : Int) : RMm w0 (put7i wr g3 j (m : Int) x) m g3 g4 cap k H v1 N (upd F j x) := by
  have h3 := h.l3
  obtain ⟨p1, p2⟩ := Els.put x h.hk hj hN h.he
  refine ⟨(put7i_other _ _ _ _ _ _ (by omega)).trans h.hp, (put7i_other _ _ _ _ _ _ (by omega)).trans h.hr, p2, p1, h.ht.same (put7i_other _ _ _ _ _ _ h.ne.symm), h.ne, h3, h.l4, by simpa using h.lt, put7i_below h.bel _ (by omega) _ _ _⟩
theorem RMm.less {w0 wr : World} {m g3 g4 cap k N N' : Nat} {H F : Nat → Int} {v1 : Value} (h : RMm w0 wr m g3 g4 cap k H v1 N F) (hN : N' ≤ N) : RMm w0 wr m g3 g4 cap k H v1 N' F :=
  ⟨h.hp, h.hr, h.hk, fun i hi => h.he i (by omega), h.ht, h.ne, h.l3, h.l4, h.lt, h.bel⟩
set_option maxRecDepth 100000 in
set_option maxHeartbeats 4000000 in
/-- impl.poly.remainder. -/
theorem remainderE (m n k g1 c1 g2 c2 : Nat) (f G : Nat → Int) (w : World) (h : isSz (m : Int) = true) (hg1 : g1 < w.heap.size) (he1 : Els w g1 (m : Int) f n) (hf : ∀ i, El (m : Int) (f i)) (hn : n ≤ m)
    (hg2 : g2 < w.heap.size) (he2 : Els w g2 (m : Int) G k) (hG : ∀ i, El (m : Int) (G i)) (h0 : 0 < k) (hk : k ≤ m) (ht : G (k - 1) ≠ 0) :
    Calls Try.prog 39 #[polyE (m : Int) (.slice (some ⟨g1, 0, none⟩) n c1), polyE (m : Int) (.slice (some ⟨g2, 0, none⟩) k c2)] w fun e w' => ∃ g' cap', e = .returned (polyE (m : Int) (.slice (some ⟨g', 0, none⟩) (rml m G k n f).length cap')) ∧ w.heap.size ≤ g' ∧ g' < w'.heap.size ∧ Els w' g' (m : Int) (cfs (rml m G k n f)) (rml m G k n f).length ∧ Below w.heap.size w w' := by
  have hq := isSz_le (m : Int) h
  have HCL := Lib.hid (fun w' (hb : Below w.heap.size w w') => cloneE (m : Int) (.slice (some ⟨g1, 0, none⟩) n c1) f n w' ⟨g1, c1, rfl, by have := hb.size; omega, he1.below hb hg1⟩ (by omega))
  have HMO := Lib.hid (fun w' (hb : Below w.heap.size w w') => monicE m k g2 c2 G w' h (by have := hb.size; omega) (he2.below hb hg2) hG h0 hk ht)
  have HRED : Hid (∀ N F g cap w', N ≤ m → (∀ i, El (m : Int) (F i)) → g < w'.heap.size → Els w' g (m : Int) F N → Calls Try.prog 50 #[fdE (m : Int), .slice (some ⟨g, 0, none⟩) N cap] w' fun e w'' => ∃ g' cap', e = .returned (polyE (m : Int) (.slice (some ⟨g', 0, none⟩) (sn F N) cap')) ∧ w'.heap.size ≤ g' ∧ g' < w''.heap.size ∧ Els w'' g' (m : Int) F (sn F N) ∧ Below w'.heap.size w' w'') := Lib.hid fun N F g cap w' hN hF hg he => by
    have e1 := (red_short h hF hN).1
    refine (reducedF m _ F N w' h ⟨g, cap, rfl, hg, he⟩ hF (by omega)).mono ?_
    rintro e w2 ⟨g2, c2, rfl, h1, h2, h3, h4⟩
    rw [e1] at h3
    exact ⟨g2, c2, by rw [e1], h1, h2, fun i hi => by rw [← show redR m F N i = F i from by rw [redR_small m F h hF N hN, if_pos (by have := sn_le F N; omega)]]; exact h3 i hi, h4⟩
  have HTM : Hid (∀ t, El (m : Int) t → ∀ i w, Calls Try.prog 65 #[elE (m : Int) t, elE (m : Int) (mno m k G i)] w fun e w' => e = .returned (elE (m : Int) (mulF m t (mno m k G i))) ∧ Below w.heap.size w w') := Lib.hid fun t ht i w => timesE (m : Int) t _ w h ht.1 ht.2 (mno_el h hG i).1 (mno_el h hG i).2
  have HMI : Hid (∀ t, El (m : Int) t → ∀ y, El (m : Int) y → ∀ i w, Calls Try.prog 64 #[elE (m : Int) y, elE (m : Int) (mulF m t (mno m k G i))] w fun e w' => e = .returned (elE (m : Int) (subF m y (mulF m t (mno m k G i)))) ∧ Below w.heap.size w w') := Lib.hid fun t ht y hy i w => minusE (m : Int) y _ w h hy.1 hy.2 (ht.mul h (mno_el h hG i)).1 (ht.mul h (mno_el h hG i)).2
  have HGO : Hid (∀ d F, (∀ i, El (m : Int) (F i)) → k ≤ d + 1 → rml m G k (d + 1) F = rml m G k d (sti m F (mno m k G) (d + 1 - k) (F d) k)) := Lib.hid fun d F hF hk => by rw [rml_go hk, sti_mno h (hF d) hG]
  have HEND : Hid (∀ N F, N < k → rml m G k N F = fl F (sn F N)) := Lib.hid fun N F hN => rml_end hN
  have HSTE : Hid (∀ F, (∀ i, El (m : Int) (F i)) → ∀ t, El (m : Int) t → ∀ o i j, El (m : Int) (sti m F (mno m k G) o t i j)) := Lib.hid fun F hF t ht o i j => sti_el h hF (mno_el h hG) ht o i j
  have HST0 : Hid (∀ F o t, sti m F (mno m k G) o t 0 = F) := Lib.hid fun F o t => sti_zero (m : Int) F _ o t
  have HSTA : Hid (∀ F o t i, sti m F (mno m k G) o t i (o + i) = F (o + i)) := Lib.hid fun F o t i => sti_at (m : Int) F _ o t i
  have HSTS : Hid (∀ F o t i, sti m F (mno m k G) o t (i + 1) = upd (sti m F (mno m k G) o t i) (o + i) (subF m (F (o + i)) (mulF m t (mno m k G i)))) := Lib.hid fun F o t i => sti_succ (m : Int) F _ o t i
  have HFE : Hid (∀ i, El (m : Int) (f i)) := Lib.hid hf
  clear h he1 he2 hf hG ht
  generalize sti (m : Int) = ST at *
  generalize hR : rml (m : Int) G k n f = R at *
  have HR0 := Lib.hid hR
  clear hR
  generalize rml (m : Int) G k = RM at *
  generalize mno (m : Int) k G = H at *
  go_enter Try.func39, Try.ntmps39
  go_wp2_with fail
  have HT := Lib.hid (three w (pblk (m : Int) (.slice (some ⟨g1, 0, none⟩) n c1)) (pblk (m : Int) (.slice (some ⟨g2, 0, none⟩) k c2)) pzblk)
  have HKEEP : Hid (∀ w', Below (w.heap.size + 3) (((w.alloc (pblk (m : Int) (.slice (some ⟨g1, 0, none⟩) n c1))).alloc (pblk (m : Int) (.slice (some ⟨g2, 0, none⟩) k c2))).alloc pzblk) w' → w'.cell? ⟨w.heap.size, 0, none⟩ = some (.int .i64 m) ∧ w'.cell? ⟨w.heap.size, 1, none⟩ = some (.int .i64 (pr m)) ∧ w'.cell? ⟨w.heap.size, 2, none⟩ = some (.int .i64 (pl m)) ∧ w'.cell? ⟨w.heap.size, 3, none⟩ = some (.slice (some ⟨g1, 0, none⟩) n c1) ∧ w'.cell? ⟨w.heap.size + 1, 0, none⟩ = some (.int .i64 m) ∧ w'.cell? ⟨w.heap.size + 1, 1, none⟩ = some (.int .i64 (pr m)) ∧ w'.cell? ⟨w.heap.size + 1, 2, none⟩ = some (.int .i64 (pl m)) ∧ w'.cell? ⟨w.heap.size + 1, 3, none⟩ = some (.slice (some ⟨g2, 0, none⟩) k c2)) := Lib.hid fun w' hb => by
    obtain ⟨x0, x1, x2, x3, _⟩ := cells4 ((hb.block w.heap.size (by omega)).trans HT.out.1)
    obtain ⟨y0, y1, y2, y3, _⟩ := cells4 ((hb.block (w.heap.size + 1) (by omega)).trans HT.out.2.1)
    exact ⟨x0, x1, x2, x3, y0, y1, y2, y3⟩
  have hfld : ∀ (g c : Nat) (w : World), (Instr.field 40 (polyE (m : Int) (.slice (some ⟨g, 0, none⟩) k c)) 1).run Try.prog w = .ok (.slice (some ⟨g, 0, none⟩) k c) w := fun g c w => field_P (m : Int) _ k c w
  go_region_held3 (fun w' => w'.cell? ⟨w.heap.size, 0, none⟩ = some (.int .i64 m) ∧ w'.cell? ⟨w.heap.size, 1, none⟩ = some (.int .i64 (pr m)) ∧ w'.cell? ⟨w.heap.size, 2, none⟩ = some (.int .i64 (pl m)) ∧ w'.cell? ⟨w.heap.size, 3, none⟩ = some (.slice (some ⟨g1, 0, none⟩) n c1) ∧ w'.cell? ⟨w.heap.size + 1, 0, none⟩ = some (.int .i64 m) ∧ w'.cell? ⟨w.heap.size + 1, 1, none⟩ = some (.int .i64 (pr m)) ∧ w'.cell? ⟨w.heap.size + 1, 2, none⟩ = some (.int .i64 (pl m)) ∧ w'.cell? ⟨w.heap.size + 1, 3, none⟩ = some (.slice (some ⟨g2, 0, none⟩) k c2))
    (exact HKEEP.out _ (by (try have hb3 := HB3.out); (try have hb4 := HB4.out); (repeat' (first | (with_reducible assumption) | (with_reducible exact Below.refl _ _) | (with_reducible refine below_drewN ?_ _) | (with_reducible refine Below.drew ?_) | (with_reducible refine Below.alloc ?_ ?_ _) | (with_reducible refine Below.setCell ?_ ?_ _) | (with_reducible refine Below.trans ?_ (Below.mono (by assumption) ?_)) | (with_reducible exact Nat.le_refl _) | (with_reducible assumption) | omega | (simp; omega) | (simp; done)))))
    (first
    | (go_at_call 63; refine (HCL.out _ (by (repeat' (first | (with_reducible assumption) | (with_reducible exact Below.refl _ _) | (with_reducible refine below_drewN ?_ _) | (with_reducible refine Below.drew ?_) | (with_reducible refine Below.alloc ?_ ?_ _) | (with_reducible refine Below.setCell ?_ ?_ _) | (with_reducible refine Below.trans ?_ (Below.mono (by assumption) ?_)) | (with_reducible exact Nat.le_refl _) | (with_reducible assumption) | omega | (simp; omega) | (simp; done))))).mono ?_; rintro e w3 ⟨g3, cap, rfl, hcap, hlo3, hk3, he3, hb3⟩; have hg3 := hk3.lt; have HK3 := Lib.hid hk3; have HE3 := Lib.hid he3; clear hk3 he3; obtain ⟨hc3, hf3⟩ := bcell hb3; (try simp only [World.size_drew] at hc3 hf3); have hz3 := hb3.size; (try simp at hz3); have HB3 := Lib.hid hb3; clear hb3)
    | (go_at_call 57; refine (HMO.out _ (by have hb3 := HB3.out; (repeat' (first | (with_reducible assumption) | (with_reducible exact Below.refl _ _) | (with_reducible refine below_drewN ?_ _) | (with_reducible refine Below.drew ?_) | (with_reducible refine Below.alloc ?_ ?_ _) | (with_reducible refine Below.setCell ?_ ?_ _) | (with_reducible refine Below.trans ?_ (Below.mono (by assumption) ?_)) | (with_reducible exact Nat.le_refl _) | (with_reducible assumption) | omega | (simp; omega) | (simp; done))))).mono ?_; rintro e w4 ⟨g4, cp4, rfl, hlo4, hg4, he4, hb4⟩; have HE4 := Lib.hid he4; clear he4; obtain ⟨hc4, hf4⟩ := bcell hb4; (try simp only [World.size_drew] at hc4 hf4); have hz4 := hb4.size; (try simp at hz4); have HB4 := Lib.hid hb4; clear hb4))
  all_goals
    simp at hlo3 hlo4
    clear hfld
    have hrm : RMm w w4 m g3 g4 cap k H (.slice (some ⟨g1, 0, none⟩) n c1) n f := by
      have hb3 := HB3.out
      have hb4 := HB4.out
      have hbw : Below (w.heap.size + 3) (((w.alloc (pblk (m : Int) (.slice (some ⟨g1, 0, none⟩) n c1))).alloc (pblk (m : Int) (.slice (some ⟨g2, 0, none⟩) k c2))).alloc pzblk) w4 := by (repeat' (first | (with_reducible assumption) | (with_reducible exact Below.refl _ _) | (with_reducible refine below_drewN ?_ _) | (with_reducible refine Below.drew ?_) | (with_reducible refine Below.alloc ?_ ?_ _) | (with_reducible refine Below.setCell ?_ ?_ _) | (with_reducible refine Below.trans ?_ (Below.mono (by assumption) ?_)) | (with_reducible exact Nat.le_refl _) | (with_reducible assumption) | omega | (simp; omega) | (simp; done)))
      have hb34 : Below w3.heap.size w3 w4 := by (repeat' (first | (with_reducible assumption) | (with_reducible exact Below.refl _ _) | (with_reducible refine below_drewN ?_ _) | (with_reducible refine Below.drew ?_) | (with_reducible refine Below.alloc ?_ ?_ _) | (with_reducible refine Below.setCell ?_ ?_ _) | (with_reducible refine Below.trans ?_ (Below.mono (by assumption) ?_)) | (with_reducible exact Nat.le_refl _) | (with_reducible assumption) | omega | (simp; omega) | (simp; done)))
      exact ⟨(hbw.block w.heap.size (by omega)).trans HT.out.1, (hbw.block (w.heap.size + 2) (by omega)).trans HT.out.2.2, HK3.out.below hb34 hg3, HE3.out.below hb34 hg3, HE4.out, by omega, by omega, by omega, hg4, by (repeat' (first | (with_reducible assumption) | (with_reducible exact Below.refl _ _) | (with_reducible refine below_drewN ?_ _) | (with_reducible refine Below.drew ?_) | (with_reducible refine Below.alloc ?_ ?_ _) | (with_reducible refine Below.setCell ?_ ?_ _) | (with_reducible refine Below.trans ?_ (Below.mono (by assumption) ?_)) | (with_reducible exact Nat.le_refl _) | (with_reducible assumption) | omega | (simp; omega) | (simp; done)))⟩
    have HRM := Lib.hid hrm
    have hz4 := hrm.bel.size
    clear hrm
    go_wp2_with fail
    go_loopw [5] (fun vr wr => ∃ (N : Nat) (F : Nat → Int), N ≤ n ∧ vr = .slice (some ⟨g3, 0, none⟩) N cap ∧ (∀ i, El (m : Int) (F i)) ∧ RM N F = R ∧ RMm w wr m g3 g4 cap k H (.slice (some ⟨g1, 0, none⟩) n c1) N F) (fun vr _ => lenOf vr)
    case atStart => exact ⟨n, f, Nat.le_refl _, rfl, HFE.out, HR0.out, HRM.out⟩
    case round =>
      obtain ⟨N, F, hN, rfl, hF, hres, hrm⟩ := hrel
      obtain ⟨wo, rfl⟩ : ∃ x : World, x = wr := ⟨_, rfl⟩
      have hzo := hrm.bel.size
      by_cases hkN : k ≤ N
      · obtain ⟨d, hd⟩ : ∃ d, d + 1 = N := ⟨N - 1, by omega⟩
        obtain ⟨o, ho⟩ : ∃ o, N - k = o := ⟨_, rfl⟩
        have hgo := HGO.out d F hF (by omega)
        rw [hd, ho] at hgo
        have HG := Lib.hid (hgo.symm.trans hres)
        have hFd := hF d
        have HTd := Lib.hid (HTM.out (F d) hFd)
        have HMd := Lib.hid (HMI.out (F d) hFd)
        have HZE := Lib.hid (HSTE.out F hF (F d) hFd o)
        have HA := Lib.hid (HSTA.out F o (F d))
        have HS := Lib.hid (HSTS.out F o (F d))
        have H0 := Lib.hid (HST0.out F o (F d))
        have HF := Lib.hid hF
        obtain ⟨x0, x1, x2, x3, x4, x5, x6⟩ := hrm.he d (by omega)
        have hgl := hrm.hk.lt
        have HRMo := Lib.hid hrm
        have hd1 : ((N : Int) - 1) = (d : Int) := by omega
        have hoo : ((N : Int) - (k : Int)) = (o : Int) := by omega
        have hwd : IntKind.i64.wrap (d : Int) = (d : Int) := IntWalk.i64_in _ (by omega)
        have hwo : IntKind.i64.wrap (o : Int) = (o : Int) := IntWalk.i64_in _ (by omega)
        have hge : ((k : Int) ≤ (N : Int)) := by omega
        have hdN : (d : Int) < (N : Int) := by omega
        have hoN : (o : Int) ≤ (N : Int) := by omega
        have hNc : (N : Int) ≤ (cap : Int) := by omega
        clear hgo hres hF hFd hrm
        generalize ST F H o (F d) = Z at *
        generalize F d = y at *
        go_wp2_with fail
        go_region
        all_goals
          go_wp2_with fail
          have hNo : N - o = k := by omega
          rw [hNo]
          have hrs : RMm w (wo.alloc (eblk (m : Int) y)).drew m g3 g4 cap k H (.slice (some ⟨g1, 0, none⟩) n c1) N (Z 0) := by
            rw [H0.out]
            exact HRMo.out.below (B := wo.heap.size) (by (repeat' (first | (with_reducible assumption) | (with_reducible exact Below.refl _ _) | (with_reducible refine below_drewN ?_ _) | (with_reducible refine Below.drew ?_) | (with_reducible refine Below.alloc ?_ ?_ _) | (with_reducible refine Below.setCell ?_ ?_ _) | (with_reducible refine Below.trans ?_ (Below.mono (by assumption) ?_)) | (with_reducible exact Nat.le_refl _) | (with_reducible assumption) | omega | (simp; omega) | (simp; done)))) (Nat.le_refl _)
          have hts : (wo.alloc (eblk (m : Int) y)).drew.heap[wo.heap.size]? = some (eblk (m : Int) y) := heap_alloc_new wo _
          have HRS := Lib.hid hrs
          have HTS := Lib.hid hts
          have hg3o := HRMo.out.hk.lt
          have hg4o := HRMo.out.lt
          have hne := HRMo.out.ne
          have hl3 := HRMo.out.l3
          have hl4 := HRMo.out.l4
          clear hrs hts x0 x1 x2 x3 x4 x5 x6 hd1 hoo hwd hwo hge hdN hoN hNc HRMo
          obtain ⟨T0, hT0⟩ : ∃ T0, wo.heap.size = T0 := ⟨_, rfl⟩
          rw [hT0] at HTS hg3o hg4o
          rw [hT0]
          go_loopw [39] (fun vi ws => ∃ i : Nat, i ≤ k ∧ vi = .int .i64 i ∧ RMm w ws m g3 g4 cap k H (.slice (some ⟨g1, 0, none⟩) n c1) N (Z i) ∧ ws.heap[T0]? = some (eblk (m : Int) y)) (fun vi _ => k - (intOf vi).toNat)
          case atStart => exact ⟨0, Nat.zero_le _, rfl, HRS.out, HTS.out⟩
          case round =>
            obtain ⟨i, hik, rfl, hri, hti⟩ := hrel
            have hzi := hri.bel.size
            by_cases hlt : i < k
            · obtain ⟨a0, a1, a2, a3, a4, a5, a6⟩ := hri.ht i hlt
              have hoi : o + i < N := by omega
              obtain ⟨e0, e1, e2, e3, e4, e5, e6⟩ := hri.he (o + i) hoi
              have hmul : (o + i) * 7 = o * 7 + i * 7 := by omega
              rw [hmul] at e0 e1 e2 e3 e4 e5 e6
              obtain ⟨t0, t1, t2, t3, t4, t5, t6, tf, tl⟩ := seven hti
              have fr := hri.hk.free
              rw [HA.out i] at e3 e4 e5 e6
              have hg3r := hri.hk.lt
              have hg4r := hri.lt
              have HX1 := Lib.hid (HTd.out i)
              have HX2 := Lib.hid (HMd.out (F (o + i)) (HF.out _) i)
              have HSS := Lib.hid (HS.out i)
              have HRI := Lib.hid hri
              have HTI := Lib.hid hti
              clear hri hti hmul
              generalize mulF (m : Int) y (H i) = z1 at *
              generalize F (o + i) = z0 at *
              generalize H i = z3 at *
              generalize subF (m : Int) z0 z1 = z2 at *
              go_wp2_with fail
              go_region_with (first
                | (go_at_call 65; refine (HX1.out _).mono ?_; rintro e w5 ⟨rfl, hb5⟩; obtain ⟨hc5, hf5⟩ := bcell hb5; (try simp only [World.size_drew] at hc5 hf5); have hz5 := hb5.size; (try simp at hz5); have HB5 := Lib.hid hb5; clear hb5; have l5 : g3 < w5.heap.size := (by omega); have l5t : T0 < w5.heap.size := (by omega); have l5w : wr.heap.size < w5.heap.size := (by omega))
                | (go_at_call 64; refine (HX2.out _).mono ?_; rintro e w6 ⟨rfl, hb6⟩; obtain ⟨hc6, hf6⟩ := bcell hb6; (try simp only [World.size_drew] at hc6 hf6); have hz6 := hb6.size; (try simp at hz6); have HB6 := Lib.hid hb6; clear hb6; have l6 : g3 < w6.heap.size := (by omega); have l6t : T0 < w6.heap.size := (by omega); have l6w : wr.heap.size < w6.heap.size := (by omega)))
              all_goals
                have hb5 := HB5.out
                have hb6 := HB6.out
                have hbw : Below wr.heap.size wr w6 := by (repeat' (first | (with_reducible assumption) | (with_reducible exact Below.refl _ _) | (with_reducible refine below_drewN ?_ _) | (with_reducible refine Below.drew ?_) | (with_reducible refine Below.alloc ?_ ?_ _) | (with_reducible refine Below.setCell ?_ ?_ _) | (with_reducible refine Below.trans ?_ (Below.mono (by assumption) ?_)) | (with_reducible exact Nat.le_refl _) | (with_reducible assumption) | omega | (simp; omega) | (simp; done)))
                have hr7 := (HRI.out.below hbw (Nat.le_refl _)).put hoi (by omega) z2
                rw [← HSS.out] at hr7
                have ht7 : (put7i w6 g3 (o + i) (m : Int) z2).heap[T0]? = some (eblk (m : Int) y) := (put7i_other _ _ _ _ _ _ (by omega)).trans ((hbw.block _ tl).trans HTI.out)
                have HR7 := Lib.hid hr7
                have HT7 := Lib.hid ht7
                clear hr7 ht7 hbw hb5 hb6
                go_wp2
                go_roundw
                case rel =>
                  refine ⟨i + 1, by omega, by go_num, ?_, ?_⟩
                  · have := HR7.out
                    unfold put7i at this
                    rw [show (o + i) * 7 = o * 7 + i * 7 by omega] at this
                    exact this
                  · have := HT7.out
                    unfold put7i at this
                    rw [show (o + i) * 7 = o * 7 + i * 7 by omega] at this
                    exact this
                case measure => simp [intOf]; omega
            · obtain rfl : k = i := by omega
              have hnot : ¬ ((k : Int) < (k : Int)) := by omega
              have HRI := Lib.hid (hri.less (N' := d) (by omega))
              have hwd : IntKind.i64.wrap (d : Int) = (d : Int) := IntWalk.i64_in _ (by omega)
              have hdc : (d : Int) ≤ (cap : Int) := by omega
              have hd0 : ¬ ((d : Int) < 0) := by omega
              clear hri hti
              go_wp2
              go_roundw
              case rel => exact ⟨d, Z k, by omega, rfl, fun j => HZE.out k j, HG.out, HRI.out⟩
              case measure => simp [lenOf]; omega
      · have hlt : ¬ ((k : Int) ≤ (N : Int)) := by omega
        have hE := HEND.out N F (by omega)
        rw [hres] at hE
        have HE := Lib.hid hE
        obtain ⟨p0, p1, p2, p3, pf, pl0⟩ := cells4 hrm.hp
        have HRD := Lib.hid (HRED.out N F g3 cap wo (by omega) hF hrm.hk.lt hrm.he)
        have HRMo := Lib.hid hrm
        clear hE hrm hres hF
        go_wp2_with fail
        refine HRD.out.mono ?_
        rintro e w5 ⟨g5, cp5, rfl, hlo5, hg5, he5, hb5⟩
        have hr5 := (HRMo.out.below hb5 (Nat.le_refl _)).hr
        have HE5 := Lib.hid he5
        have HR5 := Lib.hid hr5
        have HB5 := Lib.hid hb5
        obtain ⟨s0, s1, s2, s3, sf, sl⟩ := cells4 hr5
        clear hr5 he5 hb5
        go_wp2_with fail
        have hb5 := HB5.out
        have hb0 := HRMo.out.bel
        refine bodyPost_ret (v := polyE (m : Int) (.slice (some ⟨g5, 0, none⟩) (sn F N) cp5)) (by simp [results, Try.results39, go_sem, s0, s1, s2, s3]) rfl ⟨g5, cp5, by rw [HE.out, fl_len], by omega, by simp; omega, ?_, ?_⟩
        · rw [HE.out, fl_len]
          refine Els.likeT ?_ (fun i hi => fl_get _ _ _ hi)
          exact HE5.out.over HR5.out (by omega) (fun k hk => by (repeat' (first | (with_reducible rfl) | (with_reducible refine (heap_setCell_other _ _ _ _ ?_).trans ?_) | (with_reducible refine (drew_heap' _ _).trans ?_) | exact hk)))
        · (repeat' (first | (with_reducible assumption) | (with_reducible exact Below.refl _ _) | (with_reducible refine below_drewN ?_ _) | (with_reducible refine Below.drew ?_) | (with_reducible refine Below.alloc ?_ ?_ _) | (with_reducible refine Below.setCell ?_ ?_ _) | (with_reducible refine Below.trans ?_ (Below.mono (by assumption) ?_)) | (with_reducible exact Nat.le_refl _) | (with_reducible assumption) | omega | (simp; omega) | (simp; done)))
end Go.Proofs.Ytlhcokblbkiafab
