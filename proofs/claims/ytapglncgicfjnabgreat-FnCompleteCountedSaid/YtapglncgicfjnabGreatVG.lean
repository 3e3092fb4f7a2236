/- Lists of complete tables, of the model: spec.cmAll by a contract. -/
import Derived.Test.YtapglncgicfjnabGreatVF
import Derived.Test.YtapglncgicfjnabGreatLV
import Derived.Test.YtapglncgicfjnabGreatTN
import Derived.Test.YtapglncgicfjnabGreatKG
import Derived.Laws.AppendOwnNone
namespace Go.Proofs.YtapglncgicfjnabGreat
open Go.RowKit
/-- Slices of integers, from block B on. -/
structure RL (w : World) (B : Nat) (v : Value) (T : List (List Int)) (X : Nat → Value) : Prop where
  outer : w.ownsRow B 24 1 v T.length (flv X T.length)
  inner : ∀ i, i < T.length → Row w B (X i) (T.getD i [])
theorem RL.lt {w : World} {B : Nat} {v : Value} {T : List (List Int)} {X : Nat → Value} (h : RL w B v T X) : ∀ g, v.ownBlock = some g → B ≤ g ∧ g < w.heap.size := World.ownsRow.lt h.outer
theorem RL.nil (w : World) (B : Nat) (X : Nat → Value) : RL w B (.slice none 0 0) [] X :=
  ⟨World.ownsRow_nil _ _ _ _, fun _ hi => absurd hi (Nat.not_lt_zero _)⟩
theorem RL.below {w w' : World} {B : Nat} {v : Value} {T : List (List Int)} {X : Nat → Value} (h : RL w B v T X) (hb : Below w.heap.size w w') : RL w' B v T X :=
  ⟨outer_kept h.outer fun g hg => hb.block g (h.lt g hg).2, fun i hi => (h.inner i hi).below hb⟩
theorem RL.mono {w : World} {B B' : Nat} {v : Value} {T : List (List Int)} {X : Nat → Value} (h : RL w B v T X) (hB : B' ≤ B) : RL w B' v T X := by
  refine ⟨⟨h.outer.1, ?_⟩, fun i hi => (h.inner i hi).mono hB⟩
  rcases h.outer.2 with hn | ⟨g, cap, cur, rfl, hb, rest⟩
  · exact .inl hn
  · exact .inr ⟨g, cap, cur, rfl, by omega, rest⟩
theorem RL.form {w : World} {B : Nat} {v : Value} {T : List (List Int)} {X : Nat → Value} (h : RL w B v T X) (hn : 0 < T.length) : ∃ g cap, v = .slice (some ⟨g, 0, none⟩) T.length cap ∧ B ≤ g ∧ g < w.heap.size ∧ ∀ i, i < T.length → w.cell? ⟨g, i, none⟩ = some (X i) := by
  rcases h.outer.2 with ⟨_, h0⟩ | ⟨g, cap, cur, rfl, hb, hgg, rest⟩
  · omega
  · refine ⟨g, cap, rfl, hb, (Array.getElem?_eq_some_iff.1 hgg).1, fun i hi => ?_⟩
    have := World.ownsRow.cells h.outer (g := g) rfl i (X i) (flv_get X _ i hi)
    have hadd : (⟨g, 0, none⟩ : Addr).add i = ⟨g, i, none⟩ := by unfold Addr.add; split <;> simp_all
    rwa [hadd] at this
theorem RL.empty {w : World} {B : Nat} {v : Value} {X : Nat → Value} (h : RL w B v [] X) : ∃ a cap, v = .slice a 0 cap := by
  rcases h.outer.2 with ⟨rfl, _⟩ | ⟨g, cap, cur, rfl, _⟩
  · exact ⟨_, _, rfl⟩
  · exact ⟨_, _, rfl⟩
theorem RL.slc {w : World} {B : Nat} {v : Value} {T : List (List Int)} {X : Nat → Value} (h : RL w B v T X) : ∃ a cap, v = .slice a T.length cap := by
  by_cases h0 : 0 < T.length
  · obtain ⟨g, cap, e, _⟩ := h.form h0
    exact ⟨_, _, e⟩
  · have e : T = [] := List.eq_nil_of_length_eq_zero (by omega)
    subst e
    exact h.empty
theorem RL.how {w : World} {B : Nat} {v : Value} {T : List (List Int)} {X : Nat → Value} (h : RL w B v T X) : (v = .slice none 0 0 ∧ T = []) ∨ ∃ g cap, v = .slice (some ⟨g, 0, none⟩) T.length cap ∧ B ≤ g ∧ g < w.heap.size ∧ ∀ i, i < T.length → w.cell? ⟨g, i, none⟩ = some (X i) := by
  rcases h.outer.2 with ⟨e, h0⟩ | ⟨g, cap, cur, rfl, hb, hgg, rest⟩
  · exact .inl ⟨e, List.eq_nil_of_length_eq_zero h0⟩
  · refine .inr ⟨g, cap, rfl, hb, (Array.getElem?_eq_some_iff.1 hgg).1, fun i hi => ?_⟩
    have := World.ownsRow.cells h.outer (g := g) rfl i (X i) (flv_get X _ i hi)
    have hadd : (⟨g, 0, none⟩ : Addr).add i = ⟨g, i, none⟩ := by unfold Addr.add; split <;> simp_all
    rwa [hadd] at this
/-- Two families, one behind the other. -/
def appX (X : Nat → Value) (n : Nat) (Y : Nat → Value) : Nat → Value := fun i => if i < n then X i else Y (i - n)
theorem flv_app (X : Nat → Value) (n : Nat) (Y : Nat → Value) (k : Nat) : flv (appX X n Y) (n + k) = flv X n ++ flv Y k := by
  induction k with
  | zero =>
    rw [Nat.add_zero, show flv Y 0 = [] from rfl, List.append_nil]
    exact flv_congr fun i hi => by simp [appX, hi]
  | succ k ih =>
    rw [show n + (k + 1) = (n + k) + 1 by omega, flv_succ, ih, flv_succ, List.append_assoc, show appX X n Y (n + k) = Y k by unfold appX; rw [if_neg (by omega), show n + k - n = k by omega]]
/-- Lists behind lists. -/
theorem RL.app {w w' : World} {B : Nat} {v v' : Value} {T T2 : List (List Int)} {X X2 : Nat → Value} (h : RL w B v T X) (hg : w.grownBy w' v.ownBlock) (hown : w'.ownsRow B 24 1 v' (T.length + T2.length) (flv X T.length ++ flv X2 T2.length))
    (h2 : ∀ i, i < T2.length → Row w B (X2 i) (T2.getD i [])) : RL w' B v' (T ++ T2) (appX X T.length X2) := by
  refine ⟨?_, fun i hi => ?_⟩
  · rw [List.length_append, flv_app]
    exact hown
  · rw [List.length_append] at hi
    have key : Row w B (appX X T.length X2 i) ((T ++ T2).getD i []) := by
      unfold appX
      by_cases c : i < T.length
      · rw [if_pos c]
        have := h.inner i c
        rwa [show (T ++ T2).getD i [] = T.getD i [] by simp [List.getD, List.getElem?_append_left c]]
      · rw [if_neg c]
        have := h2 (i - T.length) (by omega)
        rwa [show (T ++ T2).getD i [] = T2.getD (i - T.length) [] by simp [List.getD, List.getElem?_append_right (show T.length ≤ i by omega)]]
    exact key.keep fun g hgg => hg.block g (key.lt g hgg).2 fun e => outer_ne h.outer key hgg e.symm
theorem RL.one {w : World} {u : Value} {l : List Int} {B : Nat} (hu : Row w B u l) (hB : B ≤ w.heap.size) : RL (w.alloc (.cells #[u] 24)) B (.slice (some ⟨w.heap.size, 0, none⟩) 1 1) [l] (fun _ => u) := by
  refine ⟨?_, fun i hi => ?_⟩
  · have := World.ownsRow_lit (base := B) (e := 24) (size := 1) w #[u] 1 hB (by unfold maxLen; omega) rfl
    exact this
  · obtain rfl : i = 0 := by simp at hi; omega
    exact hu.below ((Below.refl _ _).alloc (Nat.le_refl _) _)
theorem contains_getD {t : List Int} {y : Int} : t.contains y = (List.range t.length).any fun i => decide (t.getD i 0 = y) := by
  rw [Bool.eq_iff_iff]
  simp only [List.contains_iff_mem, List.any_eq_true, List.mem_range, decide_eq_true_eq]
  constructor
  · intro h
    obtain ⟨i, hi, e⟩ := List.getElem_of_mem h
    exact ⟨i, hi, by simp [List.getD, hi, e]⟩
  · rintro ⟨i, hi, e⟩
    rw [← e]
    simp [List.getD, hi]
/-- Whether y may follow t, as the model looks: i places of the sums done. -/
def ftk (m : Nat) (t : List Int) (y : Int) : Nat → Bool
  | 0 => !t.contains y
  | i + 1 => ftk m t y i && decide (addF m (i : Int) (t.getD i 0) ≠ addF m (t.length : Int) y)
theorem ftk_fit {m k : Nat} {t : List Int} (h : isSz (m : Int) = true) (hb : Bgn m t) (hk : k < m) (hl : t.length < m) : ftk m t (k : Int) t.length = fit m t (k : Int) := by
  have hs : ∀ i, i < t.length → addF m (i : Int) (t.getD i 0) = addF m (t.getD i 0) (i : Int) := fun i hi => add_comm' h ⟨by omega, by omega⟩ (hb.els i)
  have hy : addF m (t.length : Int) (k : Int) = addF m (k : Int) (t.length : Int) := add_comm' h ⟨by omega, by omega⟩ ⟨by omega, by omega⟩
  have hiff : ∀ n, n ≤ t.length → (ftk m t (k : Int) n = true ↔ t.contains (k : Int) = false ∧ ∀ i, i < n → addF m (t.getD i 0) (i : Int) ≠ addF m (k : Int) (t.length : Int)) := by
    intro n
    induction n with
    | zero => intro _; simp [ftk]
    | succ n ih =>
      intro hn
      rw [ftk, Bool.and_eq_true, ih (by omega), decide_eq_true_eq, hs n (by omega), hy]
      constructor
      · rintro ⟨⟨h1, h2⟩, h3⟩
        refine ⟨h1, fun i hi => ?_⟩
        by_cases e : i = n
        · subst e; exact h3
        · exact h2 i (by omega)
      · rintro ⟨h1, h2⟩
        exact ⟨⟨h1, fun i hi => h2 i (by omega)⟩, h2 n (by omega)⟩
  rw [Bool.eq_iff_iff, hiff _ (Nat.le_refl _)]
  constructor
  · rintro ⟨h1, h2⟩
    rw [contains_getD, List.any_eq_false] at h1
    exact fit_of fun i hi => ⟨by have := h1 i (List.mem_range.2 hi); simpa using this, h2 i hi⟩
  · intro hf
    refine ⟨?_, fun i hi => (fit_yes hf i hi).2⟩
    rw [contains_getD, List.any_eq_false]
    intro i hi
    have := (fit_yes hf i (List.mem_range.1 hi)).1
    simpa using this
set_option maxRecDepth 100000 in
set_option maxHeartbeats 8000000 in
/-- spec.cmAll. -/
theorem cmAll_any (m : Nat) (h : isSz (m : Int) = true) (h8 : m ≤ 8) : ∀ (d : Nat) (t : List Int) (v : Value) (w : World), Bgn m t → t.length + d = m → Sl w v t →
    Calls Tryz.prog 136 #[.int .i64 m, v] w fun e w' => ∃ v' X, e = .returned v' ∧ RL w' w.heap.size v' (cmA m d t) X ∧ Below w.heap.size w w'
  | 0, t, v, w, hb, hl, hv => by
    have hq := isSz_le (m : Int) h
    have HO := Lib.hid (l1Own_sl v t w hv (by omega))
    obtain ⟨a, cap, rfl⟩ := hv.form
    have hlm : t.length = m := by omega
    have HA : Hid (cmA m 0 t = [t]) := Lib.hid rfl
    rw [HA.out]
    rw [hlm] at HO ⊢
    clear hb hl hv h
    go_enter Tryz.func136, Tryz.ntmps136
    go_wp2_with fail
    refine HO.out.mono ?_
    rintro e w1 ⟨v1, rfl, hr1, hb1⟩
    obtain ⟨a1, c1, rfl⟩ := hr1.sl.form
    rw [hlm] at hr1 ⊢
    have HR1 := Lib.hid (RL.one hr1 hb1.size)
    have HB1 := Lib.hid hb1
    have hz1 := hb1.size
    clear hr1 hb1 hlm
    go_wp2
    go_ret
    exact ⟨_, _, rfl, HR1.out, by have hb1 := HB1.out; (repeat' (first | (with_reducible assumption) | (with_reducible exact Below.refl _ _) | (with_reducible refine below_drewN ?_ _) | (with_reducible refine Below.drew ?_) | (with_reducible refine Below.alloc ?_ ?_ _) | (with_reducible refine Below.setCell ?_ ?_ _) | (with_reducible refine Below.trans ?_ (Below.mono (by assumption) ?_)) | (with_reducible exact Nat.le_refl _) | (with_reducible assumption) | omega | (simp; omega) | (simp; done)))⟩
  | d + 1, t, v, w, hb, hl, hv => by
    obtain ⟨i0, hi0, iz0, iz1, iz2⟩ := info_parts Tryz.infoI
    obtain ⟨j0, hj, jz0, jz1, jz2⟩ := info_parts Tryz.infoR
    have hq := isSz_le (m : Int) h
    have h1 := hb.pos
    obtain ⟨b, off, cap, rfl, hbl, hcc⟩ := hv.open rfl (by omega)
    have hlen : t.length < m := by omega
    have hne : ¬ (t.length : Int) = (m : Int) := by omega
    have hne2 : ((t.length : Int) == (m : Int)) = false := by simpa using hne
    have HSL : Hid (∀ w', Below w.heap.size w w' → Sl w' (.slice (some ⟨b, off, none⟩) t.length cap) t) := Lib.hid fun w' hbw => hv.below hbw (Nat.le_refl _)
    have HCC : Hid (∀ w', Below w.heap.size w w' → ∀ i, i < t.length → w'.cell? ⟨b, off + i, none⟩ = some (.int .i64 (t.getD i 0))) := Lib.hid fun w' hbw i hi => by
      rw [hbw.cell (p := ⟨b, off + i, none⟩) hbl, hcc i hi]
    have HHAS : Hid (∀ (y : Nat) w', Below w.heap.size w w' → Calls Tryz.prog 176 #[.slice (some ⟨b, off, none⟩) t.length cap, .int .i64 y] w' fun e w'' => e = .returned (.bool (t.contains (y : Int))) ∧ w' = w'') := Lib.hid fun y w' hbw => has_any b off t.length cap t y w' rfl (by omega) (fun j hj => HCC.out w' hbw j hj)
    have HSUM := Lib.hid (fun (y : Nat) (hy : y < m) w => fdPlus_any (m : Int) (t.length : Int) (y : Int) w h (by omega) (by omega) (by omega) (by omega))
    have HADD := Lib.hid (fun (i : Nat) (hi : i < t.length) w => fdPlus_any (m : Int) (i : Int) (t.getD i 0) w h (by omega) (by omega) (hb.els i).1 (hb.els i).2)
    have HOWN := Lib.hid (fun w' (hbw : Below w.heap.size w w') => l1Own_sl (.slice (some ⟨b, off, none⟩) t.length cap) t w' (HSL.out w' hbw) (by omega))
    have HREC := Lib.hid (fun (y : Nat) (hy : y < m) v' w' (hs : Sl w' v' (t ++ [(y : Int)])) => cmAll_any m h h8 d (t ++ [(y : Int)]) v' w' (hb.app hy) (by rw [List.length_append]; simp; omega) hs)
    have HFIT := Lib.hid (fun (y : Nat) (hy : y < m) => ftk_fit (t := t) h hb hy hlen)
    have HF0 : Hid (∀ y : Nat, ftk m t (y : Int) 0 = !t.contains (y : Int)) := Lib.hid fun _ => rfl
    have HFS : Hid (∀ (y : Nat) i, ftk m t (y : Int) (i + 1) = (ftk m t (y : Int) i && decide (addF m (i : Int) (t.getD i 0) ≠ addF m (t.length : Int) (y : Int)))) := Lib.hid fun _ _ => rfl
    have H1 : Hid ((nx m t 1).flatMap (cmA m d) = []) := Lib.hid (by rw [nx_one hb]; rfl)
    have HY : Hid (∀ y : Nat, fit m t (y : Int) = true → (nx m t (y + 1)).flatMap (cmA m d) = (nx m t y).flatMap (cmA m d) ++ cmA m d (t ++ [(y : Int)])) := Lib.hid fun y hf => by
      rw [nx_succ_yes hf, List.flatMap_append]
      simp
    have HN : Hid (∀ y : Nat, fit m t (y : Int) = false → (nx m t (y + 1)).flatMap (cmA m d) = (nx m t y).flatMap (cmA m d)) := Lib.hid fun y hf => by rw [nx_succ_no hf]
    have HPL : Hid (∀ k, k ≤ m → ((nx m t k).flatMap (cmA m d)).length ≤ 16777216) := Lib.hid fun k hk => Nat.le_trans (cmA_part m d k t hk) (pow_few8 h8 (by omega))
    have HCL : Hid (∀ u, (cmA m d u).length ≤ 16777216) := Lib.hid fun u => Nat.le_trans (cmA_len m d u) (pow_few8 h8 (by omega))
    have HA : Hid (cmA m (d + 1) t = (nx m t m).flatMap (cmA m d)) := Lib.hid rfl
    rw [HA.out]
    clear hb hv h hcc HA
    obtain ⟨L, hL⟩ : ∃ L : Nat → List (List Int), L = fun k => (nx m t k).flatMap (cmA m d) := ⟨_, rfl⟩
    have hL' : ∀ k, (nx m t k).flatMap (cmA m d) = L k := fun k => by rw [hL]
    simp only [hL'] at H1 HY HN HPL ⊢
    clear hL hL'
    generalize cmA m d = A at *
    go_enter Tryz.func136, Tryz.ntmps136
    go_wp2_with fail
    go_loopw [6, 7] (fun vo vy wr => ∃ y X ov, ov = vo ∧ 1 ≤ y ∧ y ≤ m ∧ vy = .int .i64 (y : Nat) ∧ RL wr w.heap.size vo (L y) X ∧ Below w.heap.size w wr) (fun _ vy _ => m - (intOf vy).toNat)
    case atStart => exact ⟨1, fun _ => .slice none 0 0, _, rfl, Nat.le_refl _, by omega, rfl, by rw [H1.out]; exact RL.nil _ _ _, Below.refl _ _⟩
    case round =>
      obtain ⟨y, X, ov, rfl, hy1, hym, rfl, hr, hbw⟩ := hrel
      have HR := Lib.hid hr; clear hr
      have HBW := Lib.hid hbw; clear hbw
      by_cases hlt : y < m
      · have HH' := Lib.hid (HHAS.out y _ HBW.out)
        have HS' := Lib.hid (fun w => HSUM.out y hlt w)
        obtain ⟨wo, rfl⟩ : ∃ x : World, x = wr := ⟨_, rfl⟩
        have HF0y := Lib.hid (HF0.out y)
        have HFSy := Lib.hid (HFS.out y)
        have HFITy := Lib.hid (HFIT.out y hlt)
        generalize addF (m : Int) (t.length : Int) (y : Int) = S at *
        generalize t.contains (y : Int) = c0 at *
        generalize ftk m t (y : Int) = FY at *
        go_wp2_with fail
        refine HH'.out.mono ?_
        rintro e w1 ⟨rfl, rfl⟩
        go_wp2_with fail
        refine (HS'.out _).mono ?_
        rintro e w2 ⟨rfl, hb2⟩
        have HB2 : Hid (Below w.heap.size w w2) := Lib.hid (HBW.out.trans (hb2.mono HBW.out.size))
        have HR2 := Lib.hid (HR.out.below hb2)
        clear hb2
        go_wp2_with fail
        go_loopw [8, 36] (fun vf vi wr => ∃ i : Nat, i ≤ t.length ∧ vi = .int .i64 i ∧ vf = .bool (FY i) ∧ RL wr w.heap.size ov (L y) X ∧ Below w.heap.size w wr) (fun _ vi _ => t.length - (intOf vi).toNat)
        case atStart => exact ⟨0, Nat.zero_le _, rfl, by rw [HF0y.out], HR2.out, HB2.out⟩
        case round =>
          obtain ⟨i, hi, rfl, rfl, hr, hbw⟩ := hrel
          have HRi := Lib.hid hr; clear hr
          have HBi := Lib.hid hbw; clear hbw
          have hzi := HBi.out.size
          have hbli : b < wr.heap.size := by omega
          by_cases hil : i < t.length
          · have hci := HCC.out wr HBi.out i hil
            have HADi := Lib.hid (fun w => HADD.out i hil w)
            have HFi := Lib.hid (HFSy.out i)
            generalize t.getD i 0 = x at *
            generalize addF (m : Int) (i : Int) x = Ai at *
            cases hf : FY i with
            | false =>
              have HF1 : Hid (FY (i + 1) = false) := Lib.hid (by rw [HFi.out, hf]; rfl)
              clear hf
              go_wp2
              go_roundw
              case rel => exact ⟨i + 1, by omega, by go_num, by rw [HF1.out], HRi.out, HBi.out⟩
              case measure => (simp [intOf]; try omega)
            | true =>
              have HF1 : Hid (FY (i + 1) = decide (Ai ≠ S)) := Lib.hid (by rw [HFi.out, hf]; rfl)
              clear hf
              by_cases hAS : Ai = S
              · have HF2 : Hid (FY (i + 1) = false) := Lib.hid (by rw [HF1.out]; simp [hAS])
                have hb1 : (Ai == S) = true := by simpa using hAS
                have hb2 : (Ai != S) = false := by simpa using hAS
                go_wp2_with fail
                refine (HADi.out _).mono ?_
                rintro e w3 ⟨rfl, hb3⟩
                have HB3 : Hid (Below w.heap.size w w3) := Lib.hid (HBi.out.trans (hb3.mono HBi.out.size))
                have HR3 := Lib.hid (HRi.out.below hb3)
                clear hb3
                go_wp2
                go_roundw
                case rel => exact ⟨i + 1, by omega, by go_num, by rw [HF2.out], HR3.out, HB3.out⟩
                case measure => (simp [intOf]; try omega)
              · have HF2 : Hid (FY (i + 1) = true) := Lib.hid (by rw [HF1.out]; simp [hAS])
                have hb1 : (Ai == S) = false := by simpa using hAS
                have hb2 : (Ai != S) = true := by simpa using hAS
                go_wp2_with fail
                refine (HADi.out _).mono ?_
                rintro e w3 ⟨rfl, hb3⟩
                have HB3 : Hid (Below w.heap.size w w3) := Lib.hid (HBi.out.trans (hb3.mono HBi.out.size))
                have HR3 := Lib.hid (HRi.out.below hb3)
                clear hb3
                go_wp2
                go_roundw
                case rel => exact ⟨i + 1, by omega, by go_num, by rw [HF2.out], HR3.out, HB3.out⟩
                case measure => (simp [intOf]; try omega)
          · obtain rfl : i = t.length := by omega
            rw [HFITy.out]
            have HYy := Lib.hid (HY.out y)
            have HNy := Lib.hid (HN.out y)
            generalize fit m t (y : Int) = ft at *
            cases ft with
            | false =>
              have HN1 := Lib.hid (HNy.out rfl)
              clear HYy HNy
              go_wp2
              go_roundw
              case rel => exact ⟨y + 1, X, _, rfl, by omega, by omega, by go_num, by rw [HN1.out]; exact HRi.out, HBi.out⟩
              case measure => (simp [intOf]; try omega)
            | true =>
              have HY1 := Lib.hid (HYy.out rfl)
              clear HYy HNy
              have HO := Lib.hid (HOWN.out _ HBi.out)
              have HRC := Lib.hid (HREC.out y hlt)
              have HPy := HPL.out (y + 1) hlt
              have hsum := congrArg List.length HY1.out
              rw [List.length_append] at hsum
              have HT := Lib.hid (HRi.out)
              go_wp2_with fail
              refine HO.out.mono ?_
              rintro e w5 ⟨v5, rfl, hr5, hb5⟩
              have HR5 := Lib.hid hr5
              have HB5' : Hid (Below wr.heap.size wr w5) := Lib.hid hb5
              have HRo5 := Lib.hid (HRi.out.below hb5)
              have hz5 := hb5.size
              clear hr5 hb5
              go_wp2_with (at_builtin; refine wpList_append_own _ rfl _ _ 24 rfl wr.heap.size 3 i0 (.int .i64 0) 1 8 Tryz.underlying24 hi0 iz0 iz1 iz2 rfl (by decide) _ _ _ rfl (World.ownsRow.alloc HR5.out _) ⟨w5.heap.size, 0, none⟩ 1 1 [.int .i64 y] rfl rfl ?c1 ?c2 ?c3 ?c4 ?c5 ?_)
              case c1 => exact cell_one_new _ _ _
              case c2 => first | rfl | (intro u hu; simp at hu; subst hu; rfl)
              case c3 => unfold maxLen; omega
              case c4 => omega
              case c5 => first | omega | (simp; omega)
              intro v6 w6 hown hgrow _
              have HR6 := Lib.hid (Row.appended hown)
              have hb6 : Below wr.heap.size wr (w5.alloc (.cells #[.int .i64 (y : Int)] 3)) := HB5'.out.alloc (by omega) _
              have HB6 := Lib.hid (hb6.grown hgrow (by simp; omega) (fun g hg => (HR5.out.lt g hg).1))
              have HBw6 : Hid (Below w.heap.size w w6) := Lib.hid (HBi.out.trans (HB6.out.mono HBi.out.size))
              have HRo6 := Lib.hid (HRi.out.below HB6.out)
              clear hown hgrow hb6 HRo5
              go_wp2_with fail
              refine (HRC.out v6 _ HR6.out.sl).mono ?_
              rintro e w7 ⟨v7, X7, rfl, hr7, hb7⟩
              have HB7 : Hid (Below w.heap.size w w7) := Lib.hid (HBw6.out.trans (hb7.mono HBw6.out.size))
              have HRo7 := Lib.hid (HRo6.out.below hb7)
              have hzw6 := HBw6.out.size
              have HR7 := Lib.hid (hr7.mono (B' := w.heap.size) hzw6)
              clear hr7 hb7
              generalize A (t ++ [(y : Int)]) = T7 at *
              rcases HR7.out.how with ⟨rfl, rfl⟩ | ⟨g7, cap7, rfl, hg7, hgl7, hc7⟩
              rotate_left
              · have HC7 := Lib.hid hc7; clear hc7
                have hn7 := hsum
                go_wp2_with (at_builtin; refine wpList_append_own _ rfl _ _ 118 rfl w.heap.size 24 j0 (.slice none 0 0) 1 24 Tryz.underlying118 hj jz0 jz1 jz2 rfl (by decide) _ _ _ rfl HRo7.out.outer ⟨g7, 0, none⟩ T7.length cap7 (flv X7 T7.length) rfl ?d1 ?d2 ?d3 ?d4 ?d5 ?d6 ?_)
                case d1 => rw [flv_len]; omega
                case d2 =>
                  intro j u hj
                  have hjl : j < T7.length := by
                    rcases Nat.lt_or_ge j T7.length with hh | hh
                    · exact hh
                    · rw [List.getElem?_eq_none (by rw [flv_len]; exact hh)] at hj; cases hj
                  rw [flv_get _ _ _ hjl] at hj
                  cases hj
                  rw [add_off, Nat.zero_add]
                  exact HC7.out j hjl
                case d3 =>
                  intro u hu
                  obtain ⟨j, hj, rfl⟩ := List.mem_map.1 hu
                  obtain ⟨a, c, e⟩ := (HR7.out.inner j (List.mem_range.1 hj)).sl.form
                  rw [e]
                  rfl
                case d4 => unfold maxLen; omega
                case d5 => omega
                case d6 => first | omega | (simp; omega)
                intro v8 w8 hown hgrow _
                have HR8 := Lib.hid (HRo7.out.app hgrow hown HR7.out.inner)
                have HB8 := Lib.hid (HB7.out.grown hgrow (by have := HB7.out.size; omega) (fun g hg => (HRo7.out.lt g hg).1))
                clear hown hgrow
                go_wp2
                go_roundw
                case rel => exact ⟨y + 1, _, _, rfl, by omega, by omega, by go_num, by rw [HY1.out]; exact HR8.out, HB8.out⟩
                case measure => (simp [intOf]; try omega)
              · have HY2 : Hid (L (y + 1) = L y) := Lib.hid (by rw [HY1.out, List.append_nil])
                have HOUT := Lib.hid HRo7.out
                go_wp2_with (at_builtin; refine wpList_append_own_none rfl _ _ 118 rfl w.heap.size 24 j0 1 Tryz.underlying118 hj _ _ _ rfl HRo7.out.outer rfl ?_)
                go_roundw
                case rel => exact ⟨y + 1, X, _, rfl, by omega, by omega, by go_num, by rw [HY2.out]; exact HOUT.out, HB7.out⟩
                case measure => (simp [intOf]; try omega)
      · obtain rfl : y = m := by omega
        go_wp2
        go_ret
        exact ⟨_, X, rfl, HR.out, HBW.out⟩
end Go.Proofs.YtapglncgicfjnabGreat
