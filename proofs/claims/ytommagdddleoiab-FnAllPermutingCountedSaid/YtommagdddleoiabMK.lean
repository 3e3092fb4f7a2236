/- impl.field.normalPermuting, by a contract. -/
import Derived.Test.YtommagdddleoiabMI
import Derived.Test.YtommagdddleoiabLR
import Derived.Test.YtommagdddleoiabLO
import Derived.Test.YtommagdddleoiabLC
namespace Go.Proofs.Ytommagdddleoiab
open Go.RowKit
theorem PS.mono {w : World} {B B' m d : Nat} {v : Value} {L : List Nat} {Y : Nat → Nat × Nat} (h : PS w B v m d L Y) (hB : B' ≤ B) : PS w B' v m d L Y := by
  refine ⟨⟨h.outer.1, ?_⟩, h.inner⟩
  rcases h.outer.2 with hn | ⟨g, cap, cur, rfl, hb, rest⟩
  · exact .inl hn
  · exact .inr ⟨g, cap, cur, rfl, by omega, rest⟩
theorem put4_heapP {w : World} {b : Nat} {x0 x1 x2 x3 : Value} (q : Int) (v : Value) (h : w.heap[b]? = some (.cells #[x0, x1, x2, x3] 50 (0, 0))) : (put4 w b q v).heap[b]? = some (pblk q v) := by
  unfold put4
  have e0 := heap_setCell_same w b 0 _ _ (.int .i64 q) h
  have e1 := heap_setCell_same _ b 1 _ _ (.int .i64 (pr q)) e0
  have e2 := heap_setCell_same _ b 2 _ _ (.int .i64 (pl q)) e1
  have e3 := heap_setCell_same _ b 3 _ _ v e2
  exact e3
theorem cells_new (w : World) (cs : Array Value) (e : TypeId) : ∀ j u, cs.toList[j]? = some u → (w.alloc (.cells cs e)).cell? ((⟨w.heap.size, 0, none⟩ : Addr).add j) = some u := by
  intro j u h
  have hadd : (⟨w.heap.size, 0, none⟩ : Addr).add j = ⟨w.heap.size, j, none⟩ := by unfold Addr.add; split <;> simp_all
  rw [hadd, cell_of_row _ _ _ _ _ (0, 0) (heap_alloc_new w _)]
  simpa using h
theorem pow_few' {m d : Nat} (h7 : m ≤ 7) (hdm : d < m) : m ^ d ≤ 117649 := by
  have h1 : m ^ d ≤ 7 ^ d := Nat.pow_le_pow_left h7 d
  have h2 : 7 ^ d ≤ 7 ^ 6 := Nat.pow_le_pow_right (by omega) (by omega)
  exact Nat.le_trans h1 h2
/-- The memory while polynomials are looked at. -/
structure NP (w0 wr : World) (m d k : Nat) (v : Value) (Y : Nat → Nat × Nat) : Prop where
  hf : wr.heap[w0.heap.size]? = some (ffblk m)
  ps : PS wr (w0.heap.size + 1) v m d (nl m d k) Y
  bel : Below w0.heap.size w0 wr
theorem NP.below {w0 wr w' : World} {m d k : Nat} {v : Value} {Y : Nat → Nat × Nat} (h : NP w0 wr m d k v Y) (hb : Below wr.heap.size wr w') : NP w0 w' m d k v Y := by
  have hl := (cells3' h.hf).2.2.2.2
  have hz := h.bel.size
  exact ⟨(hb.block _ hl).trans h.hf, h.ps.below hb (Nat.le_refl _), h.bel.trans (hb.mono hz)⟩
theorem NP.skip {w0 wr : World} {m d k : Nat} {v : Value} {Y : Nat → Nat × Nat} (h : NP w0 wr m d k v Y) (hk : kp m d (m * k) = false) : NP w0 wr m d (k + 1) v Y := by
  have e : nl m d (k + 1) = nl m d k := by rw [nl_succ, hk]; simp
  exact ⟨h.hf, by rw [e]; exact h.ps, h.bel⟩
theorem NP.take {w0 wr w' : World} {m d k gp cp : Nat} {v v' : Value} {Y : Nat → Nat × Nat} (h : NP w0 wr m d k v Y) (hk : kp m d (m * k) = true) (hg : wr.grownBy w' v.ownBlock)
    (hown : w'.ownsRow (w0.heap.size + 1) 50 4 v' ((nl m d k).length + 1) (plc m d Y (nl m d k).length ++ pcell m d (gp, cp)))
    (hl : gp < wr.heap.size) (he : Els wr gp (m : Int) (pf m d (m * k)) (d + 1)) (hne : v.ownBlock ≠ some gp) : NP w0 w' m d (k + 1) v' (set1 Y (nl m d k).length (gp, cp)) := by
  have e : nl m d (k + 1) = nl m d k ++ [m * k] := by rw [nl_succ, hk]; simp
  have hlt := (cells3' h.hf).2.2.2.2
  refine ⟨(hg.block _ hlt fun e => ?_).trans h.hf, by rw [e]; exact h.ps.appended hg hown hl he hne, h.bel.grown hg h.bel.size fun g e => ?_⟩
  · have := (h.ps.lt w0.heap.size e.symm).1
    omega
  · have := (h.ps.lt g e).1
    omega
theorem fold_new {F : World → Prop} (W0 : World) {o : Obj} (h : ∀ W6, W6 = W0.alloc o → F W6) : F (W0.alloc o) := h _ rfl
theorem fold_put {F : World → Prop} {W0 : World} (pb : Nat) {q : Int} {v : Value} (h : ∀ W6, W6 = put4 W0 pb q v → F W6) : F (put4 W0 pb q v) := h _ rfl
set_option maxRecDepth 100000 in
set_option maxHeartbeats 8000000 in
/-- impl.field.normalPermuting. -/
theorem normalPermutingE (m d : Nat) (w : World) (h : isSz (m : Int) = true) (h7 : m ≤ 7) (hd : 1 ≤ d) (hdm : d < m) :
    Calls Try.prog 50 #[fdE m, .int .i64 d] w fun e w' => ∃ v Y, e = .returned v ∧ PS w' w.heap.size v m d (nl m d (m ^ (d - 1))) Y ∧ Below w.heap.size w w' := by
  obtain ⟨pi, hpi, pz0, pz1, pz2⟩ := info_parts Try.infoP
  have hq := isSz_le (m : Int) h
  have hpow : ∀ k, k ≤ d → m ^ k ≤ 117649 := fun k hk => pow_few' h7 (by omega)
  have hPQ : m ^ d = m * m ^ (d - 1) := by
    obtain ⟨b, hb⟩ : ∃ b, d = b + 1 := ⟨d - 1, by omega⟩
    rw [hb, Nat.add_sub_cancel, Nat.pow_succ, Nat.mul_comm]
  have HPW := Lib.hid hpow
  have HPS : Hid (∀ k, m ^ k * m = m ^ (k + 1)) := Lib.hid fun _ => rfl
  have HP0 : Hid (m ^ 0 = 1) := Lib.hid rfl
  have HDG : Hid (∀ k w', k < m ^ (d - 1) → Calls Try.prog 36 #[.int .i64 m, .int .i64 (m ^ d + m * k : Nat)] w' fun e w'' => ∃ v, e = .returned v ∧ Row w'' w'.heap.size v (fl (pf m d (m * k)) (d + 1)) ∧ Below w'.heap.size w' w'') := Lib.hid fun k w' hk => by
    have h1 : m * k < m ^ d := by rw [hPQ]; exact (Nat.mul_lt_mul_left (by omega)).2 hk
    have h2 := hpow d (Nat.le_refl _)
    have h3 : m ^ d + m * k < 2 ^ 20 := by omega
    have := digitsE m (m ^ d + m * k) w' (by omega) h3
    rw [bdig_pf (by omega) d (m * k) 20 h1 h3] at this
    exact this
  have HMP : Hid (∀ k v w', Sl w' v (fl (pf m d (m * k)) (d + 1)) → Calls Try.prog 74 #[v, .func (.func 68) #[fdE (m : Int)] #[]] w' fun e w'' => ∃ g, e = .returned (.slice (some ⟨g, 0, none⟩) (d + 1) (d + 1)) ∧ w'.heap.size ≤ g ∧ g < w''.heap.size ∧ Els w'' g (m : Int) (pf m d (m * k)) (d + 1) ∧ Below w'.heap.size w' w'') := Lib.hid fun k v w' hv => by
    have := mappedIE (m : Int) v (fl (pf m d (m * k)) (d + 1)) w' h hv (good_parts (pf_good (by omega) hdm)).2 (by rw [fl_len]; omega)
    rw [fl_len] at this
    refine this.mono ?_
    rintro e w'' ⟨g, rfl, hg, hk, he, hb⟩
    exact ⟨g, rfl, hg, hk.lt, fun j hj => by have := he j hj; simp only [fl_get (pf m d (m * k)) (d + 1) j hj] at this; exact this, hb⟩
  have HNR := Lib.hid (fun k g cap w' (hg : g < w'.heap.size) (he : Els w' g (m : Int) (pf m d (m * k)) (d + 1)) => isNormalE m g (d + 1) cap (pf m d (m * k)) w' h hg he (fun i _ => pf_el d _ (by omega) i) (by omega))
  have HPM : Hid (∀ k g cap w', g < w'.heap.size → Els w' g (m : Int) (pf m d (m * k)) (d + 1) → Calls Try.prog 65 #[polyE (m : Int) (.slice (some ⟨g, 0, none⟩) (d + 1) cap)] w' fun e w'' => e = .returned (.bool (pp m d (m * k))) ∧ Below w'.heap.size w' w'') := Lib.hid fun k g cap w' hg he => by
    have := permutesE m g (d + 1) cap (pf m d (m * k)) w' h hg he (fun i => pf_el d _ (by omega) i) (by omega)
    rw [← dis_onto fun i hi => tab_el h (fun i => pf_el d _ (by omega) i) i hi] at this
    exact this
  have HKP : Hid (∀ k, kp m d (m * k) = (nrm m (pf m d (m * k)) (d + 1) && pp m d (m * k))) := Lib.hid fun _ => rfl
  have HFEW : Hid (∀ k, k ≤ m ^ (d - 1) → (nl m d k).length ≤ 117649) := Lib.hid fun k hk => Nat.le_trans (nl_len m d k) (Nat.le_trans hk (hpow _ (by omega)))
  have HS : Hid (NP w (w.alloc (ffblk m)) m d 0 (.slice none 0 0) (fun _ => (0, 0))) := Lib.hid ⟨heap_alloc_new w _, PS.nil _ _ _ _ _, (Below.refl _ _).alloc (Nat.le_refl _) _⟩
  have hP := hpow d (Nat.le_refl _)
  have HPQ := Lib.hid hPQ
  clear h hpow hPQ
  obtain ⟨Q, hQ'⟩ : ∃ x, m ^ (d - 1) = x := ⟨_, rfl⟩
  rw [hQ'] at HPQ HDG HFEW ⊢
  have HQ' := Lib.hid hQ'
  clear hQ'
  go_enter Try.func50, Try.ntmps50
  go_wp2_with fail
  go_loopw [5, 10] (fun vf vi wr => ∃ k : Nat, k ≤ d ∧ vi = .int .i64 k ∧ vf = .int .i64 (m ^ k : Nat) ∧ wr = w.alloc (ffblk m)) (fun _ vi _ => d - (intOf vi).toNat)
  case atStart => exact ⟨0, Nat.zero_le _, rfl, by rw [HP0.out]; rfl, rfl⟩
  case round =>
    obtain ⟨k, hk, rfl, rfl, rfl⟩ := hrel
    by_cases hlt : k < d
    · have hs := HPS.out k
      have hb := HPW.out (k + 1) hlt
      obtain ⟨p', hp'⟩ : ∃ x, m ^ (k + 1) = x := ⟨_, rfl⟩
      rw [hp'] at hs hb
      have HP' := Lib.hid hp'; clear hp'
      generalize m ^ k = p at *
      have hmul : (p : Int) * (m : Int) = (p' : Int) := by rw [← hs]; rfl
      obtain ⟨x0, x1, x2, xf, xl⟩ := cells3' (heap_alloc_new w (ffblk m))
      clear hs
      go_wp2
      go_roundw
      case rel => exact ⟨k + 1, by omega, by go_num, by rw [HP'.out], by first | rfl | trivial⟩
      case measure => simp [intOf]; omega
    · obtain rfl : d = k := by omega
      obtain ⟨P, hP'⟩ : ∃ x, m ^ d = x := ⟨_, rfl⟩
      rw [hP'] at hP HPQ HDG
      rw [hP']
      have HE := Lib.hid hP'
      obtain ⟨P2, hP2⟩ : ∃ x, x = 2 * P := ⟨_, rfl⟩
      have h2P : (2 : Int) * (P : Int) = (P2 : Int) := by omega
      have HP2 := Lib.hid hP2
      have hP2b : P2 ≤ 235298 := by omega
      clear hP2
      clear hP' HPW HPS HP0
      obtain ⟨x0, x1, x2, xf, xl⟩ := cells3' (heap_alloc_new w (ffblk m))
      go_wp2_with fail
      go_loopw [6, 7] (fun vf vn wr => ∃ (k N : Nat) (v : Value) (Y : Nat → Nat × Nat), k ≤ Q ∧ N = P + m * k ∧ N ≤ P2 ∧ v = vf ∧ vn = .int .i64 N ∧ NP w wr m d k v Y) (fun _ vn _ => P2 - (intOf vn).toNat)
      case atStart => exact ⟨0, P, _, _, Nat.zero_le _, by simp, by have hP2 := HP2.out; omega, rfl, rfl, HS.out⟩
      case round =>
        obtain ⟨k, N, v, Y, hk, hN, hN2, rfl, rfl, hnp⟩ := hrel
        obtain ⟨x0, x1, x2, xf, xl⟩ := cells3' hnp.hf
        have hzr := hnp.bel.size
        have HNP := Lib.hid hnp
        clear hnp
        by_cases hlt : k < Q
        · have hNlt : N < P2 := by
            have hP2 := HP2.out
            have hPQ := HPQ.out
            have h1 : m * (k + 1) ≤ m * Q := Nat.mul_le_mul_left _ hlt
            rw [Nat.mul_succ] at h1
            omega
          have hNm : N + m ≤ P2 := by
            have hP2 := HP2.out
            have hPQ := HPQ.out
            have h1 : m * (k + 1) ≤ m * Q := Nat.mul_le_mul_left _ hlt
            rw [Nat.mul_succ] at h1
            omega
          have HNM : Hid (N + m = P + m * (k + 1)) := Lib.hid (by rw [Nat.mul_succ]; omega)
          have HDG' := Lib.hid (fun w' => HDG.out k w' hlt)
          rw [← hN] at HDG'
          have HMP' := Lib.hid (fun v w' h => HMP.out k v w' h)
          have HNR' := Lib.hid (fun g cap w' h1 h2 => HNR.out k g cap w' h1 h2)
          have HPM' := Lib.hid (fun g cap w' h1 h2 => HPM.out k g cap w' h1 h2)
          have HKP' := Lib.hid (HKP.out k)
          have hfew := HFEW.out k hk
          have HNN := Lib.hid hN
          have HKEEP : Hid (∀ w', Below wr.heap.size wr w' → w'.cell? ⟨w.heap.size, 0, none⟩ = some (.int .i64 m) ∧ w'.cell? ⟨w.heap.size, 1, none⟩ = some (.int .i64 (pr m)) ∧ w'.cell? ⟨w.heap.size, 2, none⟩ = some (.int .i64 (pl m))) := Lib.hid fun w' hb => by
            obtain ⟨x0, x1, x2, _⟩ := cells3' ((hb.block _ xl).trans HNP.out.hf)
            exact ⟨x0, x1, x2⟩
          clear hN
          generalize nrm m (pf m d (m * k)) (d + 1) = rn at *
          generalize pp m d (m * k) = rp at *
          go_wp2_with fail
          go_region_held3 (fun w' => w'.cell? ⟨w.heap.size, 0, none⟩ = some (.int .i64 m) ∧ w'.cell? ⟨w.heap.size, 1, none⟩ = some (.int .i64 (pr m)) ∧ w'.cell? ⟨w.heap.size, 2, none⟩ = some (.int .i64 (pl m)))
            ((refine HKEEP.out _ ?_; (try have hb4 := HB4.out); (try have hb5 := HB5.out); (repeat' (first | (with_reducible assumption) | (with_reducible exact Below.refl _ _) | (with_reducible refine below_drewN ?_ _) | (with_reducible refine Below.drew ?_) | (with_reducible refine Below.alloc ?_ ?_ _) | (with_reducible refine Below.setCell ?_ ?_ _) | (with_reducible refine Below.trans ?_ (Below.mono (by assumption) ?_)) | (with_reducible exact Nat.le_refl _) | (with_reducible assumption) | omega | (simp; omega) | (simp; done)))))
            (first
            | (go_at_call 36; refine (HDG'.out _).mono ?_; rintro e w4 ⟨v4, rfl, hr4, hb4⟩; have HR4 := Lib.hid hr4; clear hr4; obtain ⟨hc4, hf4⟩ := bcell hb4; (try simp only [World.size_drew] at hc4 hf4); have hz4 := hb4.size; (try simp at hz4); have HB4 := Lib.hid hb4; clear hb4; (try have l4 : wr.heap.size < w4.heap.size := (by omega)))
            | (go_at_call 74; refine (HMP'.out v4 _ (HR4.out.sl.below (B := w4.heap.size) (by (repeat' (first | (with_reducible assumption) | (with_reducible exact Below.refl _ _) | (with_reducible refine below_drewN ?_ _) | (with_reducible refine Below.drew ?_) | (with_reducible refine Below.alloc ?_ ?_ _) | (with_reducible refine Below.setCell ?_ ?_ _) | (with_reducible refine Below.trans ?_ (Below.mono (by assumption) ?_)) | (with_reducible exact Nat.le_refl _) | (with_reducible assumption) | omega | (simp; omega) | (simp; done)))) (Nat.le_refl _))).mono ?_; rintro e w5 ⟨g5, rfl, hg5, hgl5, he5, hb5⟩; have HE5 := Lib.hid he5; clear he5; obtain ⟨hc5, hf5⟩ := bcell hb5; (try simp only [World.size_drew] at hc5 hf5); have hz5 := hb5.size; (try simp at hz5); have HB5 := Lib.hid hb5; clear hb5; (try have l5 : wr.heap.size < w5.heap.size := (by omega)); (try have l6 : w4.heap.size < w5.heap.size := (by omega))))
          all_goals
            first
            | (refine fold_new w5 ?_
               intro W6 hW6
               have q6 : W6.heap[w5.heap.size]? = some (pblk m (.slice (some ⟨g5, 0, none⟩) (d + 1) (d + 1))) := by rw [hW6]; exact heap_alloc_new w5 _
               have hE6 : Els W6 g5 (m : Int) (pf m d (m * k)) (d + 1) := by rw [hW6]; exact HE5.out.same (Below.heap_alloc w5 _ g5 (by omega))
               have hB6 : Below wr.heap.size wr W6 := by rw [hW6]; have hb4 := HB4.out; have hb5 := HB5.out; (repeat' (first | (with_reducible assumption) | (with_reducible exact Below.refl _ _) | (with_reducible refine below_drewN ?_ _) | (with_reducible refine Below.drew ?_) | (with_reducible refine Below.alloc ?_ ?_ _) | (with_reducible refine Below.setCell ?_ ?_ _) | (with_reducible refine Below.trans ?_ (Below.mono (by assumption) ?_)) | (with_reducible exact Nat.le_refl _) | (with_reducible assumption) | omega | (simp; omega) | (simp; done)))
               have hgl6 : g5 < W6.heap.size := by rw [hW6]; simp; omega
               have hpw : wr.heap.size ≤ w5.heap.size := by omega
               have hgw : wr.heap.size ≤ g5 := by (try simp at hg5); omega
               clear hW6
               generalize w5.heap.size = pb at q6 hpw ⊢)
            | (refine fold_put (w4.heap.size) ?_
               intro W6 hW6
               have q0 : w5.heap[w4.heap.size]? = some pzblk := (HB5.out.block w4.heap.size (by simp)).trans (heap_alloc_new w4 _)
               have q6 : W6.heap[w4.heap.size]? = some (pblk m (.slice (some ⟨g5, 0, none⟩) (d + 1) (d + 1))) := by rw [hW6]; exact put4_heapP _ _ q0
               have hE6 : Els W6 g5 (m : Int) (pf m d (m * k)) (d + 1) := by rw [hW6]; exact HE5.out.same (put4_other _ _ _ _ _ (by (try simp at hg5); omega))
               have hB6 : Below wr.heap.size wr W6 := by rw [hW6]; have hb4 := HB4.out; have hb5 := HB5.out; exact put4_below (by (repeat' (first | (with_reducible assumption) | (with_reducible exact Below.refl _ _) | (with_reducible refine below_drewN ?_ _) | (with_reducible refine Below.drew ?_) | (with_reducible refine Below.alloc ?_ ?_ _) | (with_reducible refine Below.setCell ?_ ?_ _) | (with_reducible refine Below.trans ?_ (Below.mono (by assumption) ?_)) | (with_reducible exact Nat.le_refl _) | (with_reducible assumption) | omega | (simp; omega) | (simp; done)))) _ (by omega) _ _
               have hgl6 : g5 < W6.heap.size := by rw [hW6]; simp; omega
               have hpw : wr.heap.size ≤ w4.heap.size := by omega
               have hgw : wr.heap.size ≤ g5 := by (try simp at hg5); omega
               clear hW6 q0
               generalize w4.heap.size = pb at q6 hpw ⊢)
            | (refine fold_put (wr.heap.size) ?_
               intro W6 hW6
               have q0 : w5.heap[wr.heap.size]? = some pzblk := (HB5.out.block wr.heap.size (by omega)).trans ((HB4.out.block wr.heap.size (by simp)).trans (heap_alloc_new wr.drew _))
               have q6 : W6.heap[wr.heap.size]? = some (pblk m (.slice (some ⟨g5, 0, none⟩) (d + 1) (d + 1))) := by rw [hW6]; exact put4_heapP _ _ q0
               have hE6 : Els W6 g5 (m : Int) (pf m d (m * k)) (d + 1) := by rw [hW6]; exact HE5.out.same (put4_other _ _ _ _ _ (by (try simp at hg5); omega))
               have hB6 : Below wr.heap.size wr W6 := by rw [hW6]; have hb4 := HB4.out; have hb5 := HB5.out; exact put4_below (by (repeat' (first | (with_reducible assumption) | (with_reducible exact Below.refl _ _) | (with_reducible refine below_drewN ?_ _) | (with_reducible refine Below.drew ?_) | (with_reducible refine Below.alloc ?_ ?_ _) | (with_reducible refine Below.setCell ?_ ?_ _) | (with_reducible refine Below.trans ?_ (Below.mono (by assumption) ?_)) | (with_reducible exact Nat.le_refl _) | (with_reducible assumption) | omega | (simp; omega) | (simp; done)))) _ (by omega) _ _
               have hgl6 : g5 < W6.heap.size := by rw [hW6]; simp; omega
               have hpw : wr.heap.size ≤ wr.heap.size := by omega
               have hgw : wr.heap.size ≤ g5 := by (try simp at hg5); omega
               clear hW6 q0
               generalize wr.heap.size = pb at q6 hpw ⊢)
            have hN6 := HNP.out.below hB6
            obtain ⟨p0, p1, p2, p3, pf, pl0⟩ := cells4 q6
            have HE6 := Lib.hid hE6
            have HN6 := Lib.hid hN6
            have HQ6 := Lib.hid q6
            clear hE6 hN6 q6 hB6 hc4 hf4 hc5 hf5
            go_wp2_with fail
            refine (HNR'.out g5 (d + 1) _ hgl6 HE6.out).mono ?_
            rintro e w7 ⟨rfl, hb7⟩
            have q7 := (hb7.block _ pl0).trans HQ6.out
            have hN7 := HN6.out.below hb7
            have hz7 := hb7.size
            have hgl7 : g5 < w7.heap.size := by omega
            have HE7 := Lib.hid (HE6.out.same (hb7.block _ hgl6))
            clear p0 p1 p2 p3 pf pl0 hb7
            obtain ⟨x0, x1, x2, xf, xl⟩ := cells3' hN7.hf
            obtain ⟨p0, p1, p2, p3, pf, pl0⟩ := cells4 q7
            have HN7 := Lib.hid hN7
            have HQ7 := Lib.hid q7
            clear hN7 q7
            cases rn with
            | false =>
              go_wp2
              go_roundw
              case rel => exact ⟨k + 1, N + m, v, Y, by omega, HNM.out, hNm, rfl, by go_num, HN7.out.skip (by rw [HKP'.out]; rfl)⟩
              case measure => simp [intOf]; omega
            | true =>
              go_wp2_with fail
              refine (HPM'.out g5 (d + 1) _ hgl7 HE7.out).mono ?_
              rintro e w8 ⟨rfl, hb8⟩
              have q8 := (hb8.block _ pl0).trans HQ7.out
              have hN8 := HN7.out.below hb8
              have hz8 := hb8.size
              have hgl8 : g5 < w8.heap.size := by omega
              have HE8 := Lib.hid (HE7.out.same (hb8.block _ hgl7))
              clear x0 x1 x2 xf xl p0 p1 p2 p3 pf pl0 hb8
              obtain ⟨x0, x1, x2, xf, xl⟩ := cells3' hN8.hf
              obtain ⟨p0, p1, p2, p3, pf, pl0⟩ := cells4 q8
              have HN8 := Lib.hid hN8
              clear q8
              cases rp with
              | false =>
                clear hN8
                go_wp2
                go_roundw
                case rel => exact ⟨k + 1, N + m, v, Y, by omega, HNM.out, hNm, rfl, by go_num, HN8.out.skip (by rw [HKP'.out]; rfl)⟩
                case measure => simp [intOf]; omega
              | true =>
                have HOUT := Lib.hid (owns_kept (w' := w8.alloc (.cells #[.int .i64 m, .int .i64 (pr m), .int .i64 (pl m), .slice (some ⟨g5, 0, none⟩) (d + 1) (d + 1)] 50)) hN8.ps.outer fun g hg => Below.heap_alloc w8 _ g (hN8.ps.lt g hg).2)
                have HN9 := Lib.hid (hN8.below ((Below.refl _ _).alloc (Nat.le_refl _) (.cells #[.int .i64 m, .int .i64 (pr m), .int .i64 (pl m), .slice (some ⟨g5, 0, none⟩) (d + 1) (d + 1)] 50)))
                have HNE : Hid (v.ownBlock ≠ some g5) := Lib.hid fun e => by
                  have h1 := (HNP.out.ps.lt g5 e).2
                  omega
                clear hN8
                go_wp2_with (at_builtin; refine wpList_append_own _ rfl _ _ 65 rfl (w.heap.size + 1) 50 pi (.agg #[.int .i64 0, .int .i64 0, .int .i64 0, .slice none 0 0]) 4 48 Try.underlying65 hpi pz0 pz1 pz2 rfl (by decide) _ _ _ rfl HOUT.out ⟨w8.heap.size, 0, none⟩ 1 1 (pcell m d (g5, d + 1)) rfl rfl ?c1 ?c2 ?c3 ?c4 ?c5 ?_)
                case c1 => exact cells_new w8 _ _
                case c2 => intro u hu; simp [pcell] at hu; rcases hu with rfl | rfl | rfl | rfl <;> rfl
                case c3 => unfold maxLen; omega
                case c4 => omega
                case c5 => simp; omega
                intro v' w9 hown hgrow _
                have hN10 := HN9.out.take (by rw [HKP'.out]; rfl) hgrow hown (by simp; omega) (HE8.out.same (Below.heap_alloc w8 _ g5 hgl8)) HNE.out
                obtain ⟨y0, y1, y2, yf, yl⟩ := cells3' hN10.hf
                have HN10 := Lib.hid hN10
                clear hown hgrow hN10
                go_wp2
                go_roundw
                case rel => exact ⟨k + 1, N + m, v', _, by omega, HNM.out, hNm, rfl, by go_num, HN10.out⟩
                case measure => simp [intOf]; omega
        · obtain rfl : Q = k := by omega
          have hNe : N = P2 := by have hPQ := HPQ.out; have hP2 := HP2.out; omega
          go_wp2
          go_ret
          exact ⟨v, Y, rfl, HNP.out.ps.mono (by omega), HNP.out.bel⟩
end Go.Proofs.Ytommagdddleoiab
