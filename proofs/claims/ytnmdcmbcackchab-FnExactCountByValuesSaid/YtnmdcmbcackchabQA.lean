/- impl.field.eachPlain at its closures, over an invariant. -/
import Derived.Test.YtnmdcmbcackchabMF
import Derived.Test.YtnmdcmbcackchabLR
import Derived.Test.YtnmdcmbcackchabKM
import Derived.Deep.RegionHeld3
namespace Go.Proofs.Ytnmdcmbcackchab
open Go.RowKit
theorem cells3f {w : World} {b : Nat} {x0 x1 x2 : Value} (h : w.heap[b]? = some (.cells #[x0, x1, x2] 43 (0, 0))) : w.cell? ⟨b, 0, none⟩ = some x0 ∧ w.cell? ⟨b, 1, none⟩ = some x1 ∧ w.cell? ⟨b, 2, none⟩ = some x2 := ⟨(cells3' h).1, (cells3' h).2.1, (cells3' h).2.2.1⟩
set_option maxRecDepth 100000 in
set_option maxHeartbeats 8000000 in
/-- impl.field.eachPlain at impl.field.normalPermuting$1. -/
theorem eachPlain_NP (m d Q : Nat) (R : Nat) (I : Nat → World → Prop) (w : World) (h : isSz (m : Int) = true) (hdm : d < m) (hP : m ^ d ≤ 117649) (hQ1 : ∀ k, k < Q → m * k < m ^ d) (hQ2 : m ^ d ≤ m * Q) (hQ3 : m * Q ≤ 235298)
    (hI0 : I 0 (w.alloc (ffblk (m : Int)))) (hIf : ∀ k w', I k w' → w'.heap[w.heap.size]? = some (ffblk (m : Int))) (hIb : ∀ k w1 w2, I k w1 → Below w1.heap.size w1 w2 → I k w2)
    (hX : ∀ k g wr w', k < Q → I k wr → Below wr.heap.size wr w' → wr.heap.size ≤ g → g < w'.heap.size → Els w' g (m : Int) (pf m d (m * k)) (d + 1) → Calls Try.prog 80 #[polyE (m : Int) (.slice (some ⟨g, 0, none⟩) (d + 1) (d + 1)), .pointer (some ⟨R, 0, none⟩)] w' fun e w'' => e = .returned (.tuple #[]) ∧ I (k + 1) w'') :
    Calls Try.prog 71 #[fdE (m : Int), .int .i64 d, .func (.func 80) #[] #[.pointer (some ⟨R, 0, none⟩)]] w fun e w' => e = .returned (.tuple #[]) ∧ I Q w' := by
  have hq := isSz_le (m : Int) h
  have HPW : Hid (∀ k, k ≤ d → m ^ k ≤ 117649) := Lib.hid fun k hk => Nat.le_trans (Nat.pow_le_pow_right (by omega) hk) hP
  have HPS : Hid (∀ k, m ^ k * m = m ^ (k + 1)) := Lib.hid fun _ => rfl
  have HP0 : Hid (m ^ 0 = 1) := Lib.hid rfl
  have HDG : Hid (∀ k w', k < Q → Calls Try.prog 90 #[.int .i64 m, .int .i64 (m ^ d + m * k : Nat)] w' fun e w'' => ∃ v, e = .returned v ∧ Row w'' w'.heap.size v (fl (pf m d (m * k)) (d + 1)) ∧ Below w'.heap.size w' w'') := Lib.hid fun k w' hk => by
    have h1 := hQ1 k hk
    have h3 : m ^ d + m * k < 2 ^ 20 := by omega
    have := digitsE m (m ^ d + m * k) w' (by omega) h3
    rw [bdig_pf (by omega) d (m * k) 20 h1 h3] at this
    exact this
  have HMP : Hid (∀ k v w', Sl w' v (fl (pf m d (m * k)) (d + 1)) → Calls Try.prog 61 #[v, .func (.func 62) #[fdE (m : Int)] #[]] w' fun e w'' => ∃ g, e = .returned (.slice (some ⟨g, 0, none⟩) (d + 1) (d + 1)) ∧ w'.heap.size ≤ g ∧ g < w''.heap.size ∧ Els w'' g (m : Int) (pf m d (m * k)) (d + 1) ∧ Below w'.heap.size w' w'') := Lib.hid fun k v w' hv => by
    have := mappedIE (m : Int) v (fl (pf m d (m * k)) (d + 1)) w' h hv (good_parts (pf_good (by omega) hdm)).2 (by rw [fl_len]; omega)
    rw [fl_len] at this
    refine this.mono ?_
    rintro e w'' ⟨g, rfl, hg, hk, he, hb⟩
    exact ⟨g, rfl, hg, hk.lt, fun j hj => by have := he j hj; simp only [fl_get (pf m d (m * k)) (d + 1) j hj] at this; exact this, hb⟩
  have HX := Lib.hid hX
  have HI0 := Lib.hid hI0
  have HIF := Lib.hid hIf
  have HIB := Lib.hid hIb
  have HQ1 := Lib.hid hQ1
  have HQ2 := Lib.hid hQ2
  clear h hX hI0 hIf hIb hQ1 hQ2
  go_enter Try.func71, Try.ntmps71
  go_wp2_with fail
  go_loopw [6, 9] (fun vf vi wr => ∃ k : Nat, k ≤ d ∧ vi = .int .i64 k ∧ vf = .int .i64 (m ^ k : Nat) ∧ wr = w.alloc (ffblk m)) (fun _ vi _ => d - (intOf vi).toNat)
  case atStart => exact ⟨0, Nat.zero_le _, rfl, by rw [HP0.out]; rfl, rfl⟩
  case round =>
    obtain ⟨k, hk, rfl, rfl, rfl⟩ := hrel
    by_cases hlt : k < d
    · have hs := HPS.out k
      have hb := HPW.out (k + 1) hlt
      obtain ⟨p', hp'⟩ : ∃ x, m ^ (k + 1) = x := ⟨_, rfl⟩
      rw [hp'] at hs hb
      have HP' := Lib.hid hp'; clear hp'
      generalize m ^ k = p at *
      have hmul : (p : Int) * (m : Int) = (p' : Int) := by rw [← hs]; rfl
      obtain ⟨x0, x1, x2, xf, xl⟩ := cells3' (heap_alloc_new w (ffblk m))
      clear hs
      go_wp2
      go_roundw
      case rel => exact ⟨k + 1, by omega, by go_num, by rw [HP'.out], by first | rfl | trivial⟩
      case measure => simp [intOf]; omega
    · obtain rfl : d = k := by omega
      obtain ⟨P, hP'⟩ : ∃ x, m ^ d = x := ⟨_, rfl⟩
      rw [hP'] at hP HDG HQ1 HQ2
      rw [hP']
      clear hP' HPW HPS HP0
      have h2P : (2 : Int) * (P : Int) = ((2 * P : Nat) : Int) := by omega
      obtain ⟨P2, hP2⟩ : ∃ x, x = 2 * P := ⟨_, rfl⟩
      rw [← hP2] at h2P
      have HP2 := Lib.hid hP2
      have hP2b : P2 ≤ 235298 := by omega
      clear hP2
      obtain ⟨M, hM⟩ : ∃ x, m * Q = x := ⟨_, rfl⟩
      have HM := Lib.hid hM
      rw [hM] at hQ3 HQ2
      clear hM
      obtain ⟨x0, x1, x2, xf, xl⟩ := cells3' (heap_alloc_new w (ffblk m))
      go_wp2_with fail
      go_loopw [7] (fun vn wr => ∃ (k N : Nat), k ≤ Q ∧ N = P + m * k ∧ N ≤ P + M ∧ vn = .int .i64 N ∧ I k wr) (fun vn _ => P + M - (intOf vn).toNat)
      case atStart => exact ⟨0, P, Nat.zero_le _, by simp, by omega, rfl, HI0.out⟩
      case round =>
        obtain ⟨k, N, hk, hN, hN2, rfl, hi⟩ := hrel
        obtain ⟨x0, x1, x2, xf, xl⟩ := cells3' (HIF.out k wr hi)
        have HI := Lib.hid hi
        clear hi
        by_cases hlt : k < Q
        · have hNlt : N < P2 := by
            have hP2 := HP2.out
            have h1 := HQ1.out k hlt
            omega
          have hNm : N + m ≤ P + M := by
            have h1 : m * (k + 1) ≤ m * Q := Nat.mul_le_mul_left _ hlt
            rw [Nat.mul_succ, HM.out] at h1
            omega
          have HNM : Hid (N + m = P + m * (k + 1)) := Lib.hid (by rw [Nat.mul_succ]; omega)
          have HDG' := Lib.hid (fun w' => HDG.out k w' hlt)
          rw [← hN] at HDG'
          have HMP' := Lib.hid (fun v w' h => HMP.out k v w' h)
          have HX' := Lib.hid (fun g w' => HX.out k g wr w' hlt HI.out)
          have HKEEP : Hid (∀ w', Below wr.heap.size wr w' → w'.cell? ⟨w.heap.size, 0, none⟩ = some (.int .i64 m) ∧ w'.cell? ⟨w.heap.size, 1, none⟩ = some (.int .i64 (pr m)) ∧ w'.cell? ⟨w.heap.size, 2, none⟩ = some (.int .i64 (pl m))) := Lib.hid fun w' hb => by
            obtain ⟨x0, x1, x2, _⟩ := cells3' ((hb.block _ xl).trans (HIF.out k wr HI.out))
            exact ⟨x0, x1, x2⟩
          clear hN
          generalize pf m d (m * k) = F at *
          go_wp2_with fail
          go_region_held3 (fun w' => w'.cell? ⟨w.heap.size, 0, none⟩ = some (.int .i64 m) ∧ w'.cell? ⟨w.heap.size, 1, none⟩ = some (.int .i64 (pr m)) ∧ w'.cell? ⟨w.heap.size, 2, none⟩ = some (.int .i64 (pl m)))
            (first | (exact cells3f (HIF.out _ _ HI6.out)) | (refine HKEEP.out _ ?_; (try have hb4 := HB4.out); (try have hb5 := HB5.out); (repeat' (first | (with_reducible assumption) | (with_reducible exact Below.refl _ _) | (with_reducible refine below_drewN ?_ _) | (with_reducible refine Below.drew ?_) | (with_reducible refine Below.alloc ?_ ?_ _) | (with_reducible refine Below.setCell ?_ ?_ _) | (with_reducible refine Below.trans ?_ (Below.mono (by assumption) ?_)) | (with_reducible exact Nat.le_refl _) | (with_reducible assumption) | omega | (simp; omega) | (simp; done)))))
            (first
            | (go_at_call 90; refine (HDG'.out _).mono ?_; rintro e w4 ⟨v4, rfl, hr4, hb4⟩; have HR4 := Lib.hid hr4; clear hr4; obtain ⟨hc4, hf4⟩ := bcell hb4; (try simp only [World.size_drew] at hc4 hf4); have hz4 := hb4.size; (try simp at hz4); have HB4 := Lib.hid hb4; clear hb4; (try have l4 : w.heap.size < w4.heap.size := (by omega)))
            | (go_at_call 61; refine (HMP'.out v4 _ (HR4.out.sl.below (B := w4.heap.size) (by (repeat' (first | (with_reducible assumption) | (with_reducible exact Below.refl _ _) | (with_reducible refine below_drewN ?_ _) | (with_reducible refine Below.drew ?_) | (with_reducible refine Below.alloc ?_ ?_ _) | (with_reducible refine Below.setCell ?_ ?_ _) | (with_reducible refine Below.trans ?_ (Below.mono (by assumption) ?_)) | (with_reducible exact Nat.le_refl _) | (with_reducible assumption) | omega | (simp; omega) | (simp; done)))) (Nat.le_refl _))).mono ?_; rintro e w5 ⟨g5, rfl, hg5, hgl5, he5, hb5⟩; have HE5 := Lib.hid he5; clear he5; obtain ⟨hc5, hf5⟩ := bcell hb5; (try simp only [World.size_drew] at hc5 hf5); have hz5 := hb5.size; (try simp at hz5); have HB5 := Lib.hid hb5; clear hb5; (try have l5 : w.heap.size < w5.heap.size := (by omega)))
            | (go_at_call 80; refine (HX'.out g5 _ (by have hb4 := HB4.out; have hb5 := HB5.out; (repeat' (first | (with_reducible assumption) | (with_reducible exact Below.refl _ _) | (with_reducible refine below_drewN ?_ _) | (with_reducible refine Below.drew ?_) | (with_reducible refine Below.alloc ?_ ?_ _) | (with_reducible refine Below.setCell ?_ ?_ _) | (with_reducible refine Below.trans ?_ (Below.mono (by assumption) ?_)) | (with_reducible exact Nat.le_refl _) | (with_reducible assumption) | omega | (simp; omega) | (simp; done)))) (by (try simp at hg5); omega) hgl5 HE5.out).mono ?_; rintro e w6 ⟨rfl, hi6⟩; have HI6 := Lib.hid hi6; clear hi6))
          all_goals
            obtain ⟨y0, y1, y2, yf, yl⟩ := cells3' (HIF.out _ _ HI6.out)
            clear HB4 HB5 hc4 hf4 hc5 hf5
            go_wp2
            go_roundw
            case rel => exact ⟨k + 1, N + m, by omega, HNM.out, hNm, by go_num, HI6.out⟩
            case measure => simp [intOf]; omega
        · obtain rfl : Q = k := by omega
          have hNe : P2 ≤ N := by
            have hP2 := HP2.out
            have h1 := HQ2.out
            have h2 := HM.out
            omega
          go_wp2
          first | (refine bodyPost_ret (results_none rfl _ _ _) rfl ?_) | go_end0
          exact ⟨rfl, HI.out⟩
set_option maxRecDepth 100000 in
set_option maxHeartbeats 8000000 in
/-- impl.field.eachPlain at impl.field.countByValues$1. -/
theorem eachPlain_CV (m d Q : Nat) (R R2 : Nat) (I : Nat → World → Prop) (w : World) (h : isSz (m : Int) = true) (hdm : d < m) (hP : m ^ d ≤ 117649) (hQ1 : ∀ k, k < Q → m * k < m ^ d) (hQ2 : m ^ d ≤ m * Q) (hQ3 : m * Q ≤ 235298)
    (hI0 : I 0 (w.alloc (ffblk (m : Int)))) (hIf : ∀ k w', I k w' → w'.heap[w.heap.size]? = some (ffblk (m : Int))) (hIb : ∀ k w1 w2, I k w1 → Below w1.heap.size w1 w2 → I k w2)
    (hX : ∀ k g wr w', k < Q → I k wr → Below wr.heap.size wr w' → wr.heap.size ≤ g → g < w'.heap.size → Els w' g (m : Int) (pf m d (m * k)) (d + 1) → Calls Try.prog 72 #[polyE (m : Int) (.slice (some ⟨g, 0, none⟩) (d + 1) (d + 1)), .pointer (some ⟨R, 0, none⟩), .pointer (some ⟨R2, 0, none⟩)] w' fun e w'' => e = .returned (.tuple #[]) ∧ I (k + 1) w'') :
    Calls Try.prog 71 #[fdE (m : Int), .int .i64 d, .func (.func 72) #[] #[.pointer (some ⟨R, 0, none⟩), .pointer (some ⟨R2, 0, none⟩)]] w fun e w' => e = .returned (.tuple #[]) ∧ I Q w' := by
  have hq := isSz_le (m : Int) h
  have HPW : Hid (∀ k, k ≤ d → m ^ k ≤ 117649) := Lib.hid fun k hk => Nat.le_trans (Nat.pow_le_pow_right (by omega) hk) hP
  have HPS : Hid (∀ k, m ^ k * m = m ^ (k + 1)) := Lib.hid fun _ => rfl
  have HP0 : Hid (m ^ 0 = 1) := Lib.hid rfl
  have HDG : Hid (∀ k w', k < Q → Calls Try.prog 90 #[.int .i64 m, .int .i64 (m ^ d + m * k : Nat)] w' fun e w'' => ∃ v, e = .returned v ∧ Row w'' w'.heap.size v (fl (pf m d (m * k)) (d + 1)) ∧ Below w'.heap.size w' w'') := Lib.hid fun k w' hk => by
    have h1 := hQ1 k hk
    have h3 : m ^ d + m * k < 2 ^ 20 := by omega
    have := digitsE m (m ^ d + m * k) w' (by omega) h3
    rw [bdig_pf (by omega) d (m * k) 20 h1 h3] at this
    exact this
  have HMP : Hid (∀ k v w', Sl w' v (fl (pf m d (m * k)) (d + 1)) → Calls Try.prog 61 #[v, .func (.func 62) #[fdE (m : Int)] #[]] w' fun e w'' => ∃ g, e = .returned (.slice (some ⟨g, 0, none⟩) (d + 1) (d + 1)) ∧ w'.heap.size ≤ g ∧ g < w''.heap.size ∧ Els w'' g (m : Int) (pf m d (m * k)) (d + 1) ∧ Below w'.heap.size w' w'') := Lib.hid fun k v w' hv => by
    have := mappedIE (m : Int) v (fl (pf m d (m * k)) (d + 1)) w' h hv (good_parts (pf_good (by omega) hdm)).2 (by rw [fl_len]; omega)
    rw [fl_len] at this
    refine this.mono ?_
    rintro e w'' ⟨g, rfl, hg, hk, he, hb⟩
    exact ⟨g, rfl, hg, hk.lt, fun j hj => by have := he j hj; simp only [fl_get (pf m d (m * k)) (d + 1) j hj] at this; exact this, hb⟩
  have HX := Lib.hid hX
  have HI0 := Lib.hid hI0
  have HIF := Lib.hid hIf
  have HIB := Lib.hid hIb
  have HQ1 := Lib.hid hQ1
  have HQ2 := Lib.hid hQ2
  clear h hX hI0 hIf hIb hQ1 hQ2
  go_enter Try.func71, Try.ntmps71
  go_wp2_with fail
  go_loopw [6, 9] (fun vf vi wr => ∃ k : Nat, k ≤ d ∧ vi = .int .i64 k ∧ vf = .int .i64 (m ^ k : Nat) ∧ wr = w.alloc (ffblk m)) (fun _ vi _ => d - (intOf vi).toNat)
  case atStart => exact ⟨0, Nat.zero_le _, rfl, by rw [HP0.out]; rfl, rfl⟩
  case round =>
    obtain ⟨k, hk, rfl, rfl, rfl⟩ := hrel
    by_cases hlt : k < d
    · have hs := HPS.out k
      have hb := HPW.out (k + 1) hlt
      obtain ⟨p', hp'⟩ : ∃ x, m ^ (k + 1) = x := ⟨_, rfl⟩
      rw [hp'] at hs hb
      have HP' := Lib.hid hp'; clear hp'
      generalize m ^ k = p at *
      have hmul : (p : Int) * (m : Int) = (p' : Int) := by rw [← hs]; rfl
      obtain ⟨x0, x1, x2, xf, xl⟩ := cells3' (heap_alloc_new w (ffblk m))
      clear hs
      go_wp2
      go_roundw
      case rel => exact ⟨k + 1, by omega, by go_num, by rw [HP'.out], by first | rfl | trivial⟩
      case measure => simp [intOf]; omega
    · obtain rfl : d = k := by omega
      obtain ⟨P, hP'⟩ : ∃ x, m ^ d = x := ⟨_, rfl⟩
      rw [hP'] at hP HDG HQ1 HQ2
      rw [hP']
      clear hP' HPW HPS HP0
      have h2P : (2 : Int) * (P : Int) = ((2 * P : Nat) : Int) := by omega
      obtain ⟨P2, hP2⟩ : ∃ x, x = 2 * P := ⟨_, rfl⟩
      rw [← hP2] at h2P
      have HP2 := Lib.hid hP2
      have hP2b : P2 ≤ 235298 := by omega
      clear hP2
      obtain ⟨M, hM⟩ : ∃ x, m * Q = x := ⟨_, rfl⟩
      have HM := Lib.hid hM
      rw [hM] at hQ3 HQ2
      clear hM
      obtain ⟨x0, x1, x2, xf, xl⟩ := cells3' (heap_alloc_new w (ffblk m))
      go_wp2_with fail
      go_loopw [7] (fun vn wr => ∃ (k N : Nat), k ≤ Q ∧ N = P + m * k ∧ N ≤ P + M ∧ vn = .int .i64 N ∧ I k wr) (fun vn _ => P + M - (intOf vn).toNat)
      case atStart => exact ⟨0, P, Nat.zero_le _, by simp, by omega, rfl, HI0.out⟩
      case round =>
        obtain ⟨k, N, hk, hN, hN2, rfl, hi⟩ := hrel
        obtain ⟨x0, x1, x2, xf, xl⟩ := cells3' (HIF.out k wr hi)
        have HI := Lib.hid hi
        clear hi
        by_cases hlt : k < Q
        · have hNlt : N < P2 := by
            have hP2 := HP2.out
            have h1 := HQ1.out k hlt
            omega
          have hNm : N + m ≤ P + M := by
            have h1 : m * (k + 1) ≤ m * Q := Nat.mul_le_mul_left _ hlt
            rw [Nat.mul_succ, HM.out] at h1
            omega
          have HNM : Hid (N + m = P + m * (k + 1)) := Lib.hid (by rw [Nat.mul_succ]; omega)
          have HDG' := Lib.hid (fun w' => HDG.out k w' hlt)
          rw [← hN] at HDG'
          have HMP' := Lib.hid (fun v w' h => HMP.out k v w' h)
          have HX' := Lib.hid (fun g w' => HX.out k g wr w' hlt HI.out)
          have HKEEP : Hid (∀ w', Below wr.heap.size wr w' → w'.cell? ⟨w.heap.size, 0, none⟩ = some (.int .i64 m) ∧ w'.cell? ⟨w.heap.size, 1, none⟩ = some (.int .i64 (pr m)) ∧ w'.cell? ⟨w.heap.size, 2, none⟩ = some (.int .i64 (pl m))) := Lib.hid fun w' hb => by
            obtain ⟨x0, x1, x2, _⟩ := cells3' ((hb.block _ xl).trans (HIF.out k wr HI.out))
            exact ⟨x0, x1, x2⟩
          clear hN
          generalize pf m d (m * k) = F at *
          go_wp2_with fail
          go_region_held3 (fun w' => w'.cell? ⟨w.heap.size, 0, none⟩ = some (.int .i64 m) ∧ w'.cell? ⟨w.heap.size, 1, none⟩ = some (.int .i64 (pr m)) ∧ w'.cell? ⟨w.heap.size, 2, none⟩ = some (.int .i64 (pl m)))
            (first | (exact cells3f (HIF.out _ _ HI6.out)) | (refine HKEEP.out _ ?_; (try have hb4 := HB4.out); (try have hb5 := HB5.out); (repeat' (first | (with_reducible assumption) | (with_reducible exact Below.refl _ _) | (with_reducible refine below_drewN ?_ _) | (with_reducible refine Below.drew ?_) | (with_reducible refine Below.alloc ?_ ?_ _) | (with_reducible refine Below.setCell ?_ ?_ _) | (with_reducible refine Below.trans ?_ (Below.mono (by assumption) ?_)) | (with_reducible exact Nat.le_refl _) | (with_reducible assumption) | omega | (simp; omega) | (simp; done)))))
            (first
            | (go_at_call 90; refine (HDG'.out _).mono ?_; rintro e w4 ⟨v4, rfl, hr4, hb4⟩; have HR4 := Lib.hid hr4; clear hr4; obtain ⟨hc4, hf4⟩ := bcell hb4; (try simp only [World.size_drew] at hc4 hf4); have hz4 := hb4.size; (try simp at hz4); have HB4 := Lib.hid hb4; clear hb4; (try have l4 : w.heap.size < w4.heap.size := (by omega)))
            | (go_at_call 61; refine (HMP'.out v4 _ (HR4.out.sl.below (B := w4.heap.size) (by (repeat' (first | (with_reducible assumption) | (with_reducible exact Below.refl _ _) | (with_reducible refine below_drewN ?_ _) | (with_reducible refine Below.drew ?_) | (with_reducible refine Below.alloc ?_ ?_ _) | (with_reducible refine Below.setCell ?_ ?_ _) | (with_reducible refine Below.trans ?_ (Below.mono (by assumption) ?_)) | (with_reducible exact Nat.le_refl _) | (with_reducible assumption) | omega | (simp; omega) | (simp; done)))) (Nat.le_refl _))).mono ?_; rintro e w5 ⟨g5, rfl, hg5, hgl5, he5, hb5⟩; have HE5 := Lib.hid he5; clear he5; obtain ⟨hc5, hf5⟩ := bcell hb5; (try simp only [World.size_drew] at hc5 hf5); have hz5 := hb5.size; (try simp at hz5); have HB5 := Lib.hid hb5; clear hb5; (try have l5 : w.heap.size < w5.heap.size := (by omega)))
            | (go_at_call 72; refine (HX'.out g5 _ (by have hb4 := HB4.out; have hb5 := HB5.out; (repeat' (first | (with_reducible assumption) | (with_reducible exact Below.refl _ _) | (with_reducible refine below_drewN ?_ _) | (with_reducible refine Below.drew ?_) | (with_reducible refine Below.alloc ?_ ?_ _) | (with_reducible refine Below.setCell ?_ ?_ _) | (with_reducible refine Below.trans ?_ (Below.mono (by assumption) ?_)) | (with_reducible exact Nat.le_refl _) | (with_reducible assumption) | omega | (simp; omega) | (simp; done)))) (by (try simp at hg5); omega) hgl5 HE5.out).mono ?_; rintro e w6 ⟨rfl, hi6⟩; have HI6 := Lib.hid hi6; clear hi6))
          all_goals
            obtain ⟨y0, y1, y2, yf, yl⟩ := cells3' (HIF.out _ _ HI6.out)
            clear HB4 HB5 hc4 hf4 hc5 hf5
            go_wp2
            go_roundw
            case rel => exact ⟨k + 1, N + m, by omega, HNM.out, hNm, by go_num, HI6.out⟩
            case measure => simp [intOf]; omega
        · obtain rfl : Q = k := by omega
          have hNe : P2 ≤ N := by
            have hP2 := HP2.out
            have h1 := HQ2.out
            have h2 := HM.out
            omega
          go_wp2
          first | (refine bodyPost_ret (results_none rfl _ _ _) rfl ?_) | go_end0
          exact ⟨rfl, HI.out⟩
end Go.Proofs.Ytnmdcmbcackchab
