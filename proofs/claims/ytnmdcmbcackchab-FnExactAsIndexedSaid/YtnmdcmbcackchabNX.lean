/- impl.poly.indexOf by a contract. -/
import Derived.Test.YtnmdcmbcackchabKQ
import Derived.Test.YtnmdcmbcackchabKP
import Derived.Test.YtnmdcmbcackchabNA
namespace Go.Proofs.Ytnmdcmbcackchab
open Go.RowKit
set_option maxHeartbeats 1000000 in
/-- The closure of indexOf. -/
theorem nzClo (m : Nat) (y : Int) (w : World) (h : isSz (m : Int) = true) (hy : El (m : Int) y) :
    Calls Try.prog 64 #[elE (m : Int) y] w fun e w' => e = .returned (.bool (!decide (y = 0))) ∧ Below w.heap.size w w' := by
  have HZ := Lib.hid (fun w => isZeroE (m : Int) y w h hy.1 hy.2)
  clear h hy
  generalize decide (y = 0) = d at *
  go_enter Try.func64, Try.ntmps64
  go_wp2_with fail
  refine (HZ.out _).mono ?_
  rintro e w1 ⟨rfl, hb1⟩
  obtain ⟨hc1, hf1⟩ := bcell hb1; have hz1 := hb1.size; (try simp at hz1); have HB1 := Lib.hid hb1; clear hb1
  go_wp2
  go_ret
  have hb1 := HB1.out
  exact ⟨rfl, by (repeat' (first | (with_reducible assumption) | (with_reducible exact Below.refl _ _) | (with_reducible refine below_drewN ?_ _) | (with_reducible refine Below.drew ?_) | (with_reducible refine Below.alloc ?_ ?_ _) | (with_reducible refine Below.setCell ?_ ?_ _) | (with_reducible refine Below.trans ?_ (Below.mono (by assumption) ?_)) | (with_reducible exact Nat.le_refl _) | (with_reducible assumption) | omega | (simp; omega) | (simp; done)))⟩
set_option maxRecDepth 100000 in
set_option maxHeartbeats 4000000 in
/-- slices.IndexFunc at it: the first coefficient other than 0, at r. -/
theorem indexNZ (m g n cap r : Nat) (f : Nat → Int) (w : World) (h : isSz (m : Int) = true) (hf : ∀ i, i < n → El (m : Int) (f i)) (hg : g < w.heap.size) (he : Els w g (m : Int) f n) (hn : n ≤ 1000) (hr : r < n) (hr1 : f r ≠ 0) (hr0 : ∀ j, j < r → f j = 0) :
    Calls Try.prog 63 #[.slice (some ⟨g, 0, none⟩) n cap, .func (.func 64) #[] #[]] w fun e w' => e = .returned (.int .i64 r) ∧ Below w.heap.size w w' := by
  have HC := Lib.hid (fun (j : Nat) (hj : j < n) w => nzClo m (f j) w h (hf j hj))
  have HE := Lib.hid he
  have HR1 := Lib.hid hr1
  have HR0 := Lib.hid hr0
  clear h hf he hr1 hr0
  go_enter Try.func63, Try.ntmps63
  go_wp2_with fail
  go_loopw [8] (fun vi wr => ∃ k : Nat, k ≤ r ∧ vi = .int .i64 k ∧ Below w.heap.size w wr) (fun vi _ => n - (intOf vi).toNat)
  case atStart => exact ⟨0, Nat.zero_le _, rfl, by (repeat' (first | (with_reducible assumption) | (with_reducible exact Below.refl _ _) | (with_reducible refine below_drewN ?_ _) | (with_reducible refine Below.drew ?_) | (with_reducible refine Below.alloc ?_ ?_ _) | (with_reducible refine Below.setCell ?_ ?_ _) | (with_reducible refine Below.trans ?_ (Below.mono (by assumption) ?_)) | (with_reducible exact Nat.le_refl _) | (with_reducible assumption) | omega | (simp; omega) | (simp; done)))⟩
  case round =>
    obtain ⟨k, hk, rfl, hb⟩ := hrel
    have hlt : k < n := by omega
    have hsz := hb.size
    obtain ⟨c0, c1, c2, c3, c4, c5, c6⟩ := (HE.out.below hb hg) k hlt
    have HB := Lib.hid hb; clear hb
    have HC' := Lib.hid (HC.out k hlt)
    by_cases e : k = r
    · subst e
      have HD : Hid (decide (f k = 0) = false) := Lib.hid (decide_eq_false HR1.out)
      rw [HD.out] at HC'
      clear HC HE HR0 HR1 HD
      generalize f k = y at *
      go_wp2_with fail
      refine (HC'.out _).mono ?_
      rintro e w1 ⟨rfl, hb1⟩
      have hz_hb1 := hb1.size; (try simp at hz_hb1)
      go_wp2_with fail
      go_ret
      have hb := HB.out
      exact ⟨rfl, by (repeat' (first | (with_reducible assumption) | (with_reducible exact Below.refl _ _) | (with_reducible refine below_drewN ?_ _) | (with_reducible refine Below.drew ?_) | (with_reducible refine Below.alloc ?_ ?_ _) | (with_reducible refine Below.setCell ?_ ?_ _) | (with_reducible refine Below.trans ?_ (Below.mono (by assumption) ?_)) | (with_reducible exact Nat.le_refl _) | (with_reducible assumption) | omega | (simp; omega) | (simp; done)))⟩
    · have HD : Hid (decide (f k = 0) = true) := Lib.hid (decide_eq_true (HR0.out k (by omega)))
      rw [HD.out] at HC'
      clear HC HE HR0 HR1 HD
      generalize f k = y at *
      go_wp2_with fail
      refine (HC'.out _).mono ?_
      rintro e' w1 ⟨rfl, hb1⟩
      have hz_hb1 := hb1.size; (try simp at hz_hb1)
      have HB1 := Lib.hid hb1; clear hb1
      go_wp2_with fail
      go_roundw
      case rel => exact ⟨k + 1, by omega, by first | rfl | go_num, by have hb := HB.out; have hb1 := HB1.out; (repeat' (first | (with_reducible assumption) | (with_reducible exact Below.refl _ _) | (with_reducible refine below_drewN ?_ _) | (with_reducible refine Below.drew ?_) | (with_reducible refine Below.alloc ?_ ?_ _) | (with_reducible refine Below.setCell ?_ ?_ _) | (with_reducible refine Below.trans ?_ (Below.mono (by assumption) ?_)) | (with_reducible exact Nat.le_refl _) | (with_reducible assumption) | omega | (simp; omega) | (simp; done)))⟩
      case measure => simp [intOf]; omega
/-- The common divisor of m - 1 and of the powers behind r, less r: after j of them. -/
def ixS (m : Nat) (f : Nat → Int) (r : Nat) : Nat → Nat
  | 0 => m - 1
  | j + 1 => if f (r + 1 + j) = 0 then ixS m f r j else Nat.gcd (ixS m f r j) (j + 1)
theorem ixS_le (m : Nat) (f : Nat → Int) (r j : Nat) (hm : 2 ≤ m) : 1 ≤ ixS m f r j ∧ ixS m f r j ≤ m - 1 := by
  induction j with
  | zero => exact ⟨by show 1 ≤ m - 1; omega, Nat.le_refl _⟩
  | succ j ih =>
    rw [ixS]
    split
    · exact ih
    · exact ⟨Nat.gcd_pos_of_pos_left _ ih.1, Nat.le_trans (Nat.gcd_le_left _ ih.1) ih.2⟩
set_option maxRecDepth 100000 in
set_option maxHeartbeats 4000000 in
/-- impl.poly.indexOf. -/
theorem indexOfE (m g n cap r : Nat) (f : Nat → Int) (w : World) (h : isSz (m : Int) = true) (hf : ∀ i, i < n → El (m : Int) (f i)) (hg : g < w.heap.size) (he : Els w g (m : Int) f n) (hn : n ≤ 1000) (hr : r < n) (hr1 : f r ≠ 0) (hr0 : ∀ j, j < r → f j = 0) :
    Calls Try.prog 36 #[polyE (m : Int) (.slice (some ⟨g, 0, none⟩) n cap)] w fun e w' => e = .returned (.tuple #[.int .i64 r, .int .i64 (ixS m f r (n - (r + 1)))]) ∧ Below w.heap.size w w' := by
  have hq := isSz_le (m : Int) h
  have HI := Lib.hid (fun w' (hb : Below w.heap.size w w') => indexNZ m g n cap r f w' h hf (by have := hb.size; omega) (he.below hb hg) hn hr hr1 hr0)
  have HZ := Lib.hid (fun (j : Nat) (hj : j < n) w => isZeroE (m : Int) (f j) w h (hf j hj).1 (hf j hj).2)
  have HC := Lib.hid (fun (a b : Nat) w (ha : a ≤ 400) (hb : b ≤ 4000) => commonE a b w (by omega) (by omega))
  have HS := Lib.hid (fun j => ixS_le m f r j (by omega))
  have HY : Hid (∀ j, f (r + 1 + j) = 0 → ixS m f r (j + 1) = ixS m f r j) := Lib.hid fun j hj => by rw [ixS, if_pos hj]
  have HN : Hid (∀ j, f (r + 1 + j) ≠ 0 → ixS m f r (j + 1) = Nat.gcd (ixS m f r j) (j + 1)) := Lib.hid fun j hj => by rw [ixS, if_neg hj]
  have HS0 : Hid (ixS m f r 0 = m - 1) := Lib.hid rfl
  have HE := Lib.hid he
  have hwr1 : IntKind.i64.wrap ((m : Int) - 1) = (m : Int) - 1 := IntWalk.i64_in _ (by omega)
  clear h hf he hr1 hr0
  go_enter Try.func36, Try.ntmps36
  go_wp2_with fail
  refine (HI.out _ (by (repeat' (first | (with_reducible assumption) | (with_reducible exact Below.refl _ _) | (with_reducible refine below_drewN ?_ _) | (with_reducible refine Below.drew ?_) | (with_reducible refine Below.alloc ?_ ?_ _) | (with_reducible refine Below.setCell ?_ ?_ _) | (with_reducible refine Below.trans ?_ (Below.mono (by assumption) ?_)) | (with_reducible exact Nat.le_refl _) | (with_reducible assumption) | omega | (simp; omega) | (simp; done))))).mono ?_
  rintro e w1 ⟨rfl, hb1⟩
  have hp := heap_alloc_new w (pblk (m : Int) (.slice (some ⟨g, 0, none⟩) n cap))
  have HPB := Lib.hid ((hb1.block _ (by simp)).trans hp)
  have HB1 : Hid (Below w.heap.size w w1) := Lib.hid (by (repeat' (first | (with_reducible assumption) | (with_reducible exact Below.refl _ _) | (with_reducible refine below_drewN ?_ _) | (with_reducible refine Below.drew ?_) | (with_reducible refine Below.alloc ?_ ?_ _) | (with_reducible refine Below.setCell ?_ ?_ _) | (with_reducible refine Below.trans ?_ (Below.mono (by assumption) ?_)) | (with_reducible exact Nat.le_refl _) | (with_reducible assumption) | omega | (simp; omega) | (simp; done))))
  have hz1 := hb1.size
  simp at hz1
  obtain ⟨p0, p1, p2, p3, pf, pl0⟩ := cells4 HPB.out
  clear hb1 hp
  go_wp2_with fail
  have HM1 : Hid ((m : Int) - 1 = ((m - 1 : Nat) : Int)) := Lib.hid (by omega)
  go_loopw [5, 6] (fun vs vk wr => ∃ j : Nat, r + 1 + j ≤ n ∧ vs = .int .i64 (ixS m f r j) ∧ vk = .int .i64 (r + 1 + j : Nat) ∧ Below w1.heap.size w1 wr) (fun _ vk _ => n - (intOf vk).toNat)
  case atStart => exact ⟨0, by omega, by rw [HS0.out, HM1.out], by first | rfl | go_num, Below.refl _ _⟩
  case round =>
    obtain ⟨j, hj, rfl, rfl, hb⟩ := hrel
    have hzb := hb.size
    obtain ⟨p0', p1', p2', p3', pf', pl'⟩ := cells4 ((hb.block _ (by omega)).trans HPB.out)
    have hjn : n - (r + 1) = j ∨ r + 1 + j < n := by omega
    have hsb : (((r + 1 + j : Nat) : Int)) - (r : Int) = ((j + 1 : Nat) : Int) := by omega
    obtain ⟨k, hk⟩ : ∃ k, k = r + 1 + j := ⟨_, rfl⟩
    rw [← hk] at hj hjn hsb ⊢
    by_cases hlt : k < n
    · obtain ⟨c0, c1, c2, c3, c4, c5, c6⟩ := (HE.out.below (HB1.out.trans (hb.mono HB1.out.size)) hg) k hlt
      have HB := Lib.hid hb; clear hb
      have HZ' := Lib.hid (HZ.out k hlt)
      have hs := HS.out j
      have HC' := Lib.hid (fun w => HC.out (ixS m f r j) (j + 1) w (by omega) (by omega))
      have hyy := HY.out j
      have hnn := HN.out j
      rw [← hk] at hyy hnn
      have HK : Hid (r + 1 + (j + 1) = k + 1) := Lib.hid (by omega)
      clear hk hjn
      obtain ⟨s, hse⟩ : ∃ s, ixS m f r j = s := ⟨_, rfl⟩
      rw [hse] at hs HC' hyy hnn ⊢
      clear hse
      by_cases hy : f k = 0
      · have HYY := Lib.hid (hyy hy)
        rw [decide_eq_true hy] at HZ'
        clear hsb hyy hnn hy
        generalize f k = y at *
        go_wp2_with fail
        refine (HZ'.out _).mono ?_
        rintro e w2 ⟨rfl, hb2⟩
        have hz_hb2 := hb2.size; (try simp at hz_hb2)
        have HB2 := Lib.hid hb2; clear hb2
        go_wp2_with fail
        go_roundw
        case rel => exact ⟨j + 1, by rw [HK.out]; omega, by rw [HYY.out], by rw [HK.out]; first | rfl | go_num, by have hb := HB.out; have hb2 := HB2.out; (repeat' (first | (with_reducible assumption) | (with_reducible exact Below.refl _ _) | (with_reducible refine below_drewN ?_ _) | (with_reducible refine Below.drew ?_) | (with_reducible refine Below.alloc ?_ ?_ _) | (with_reducible refine Below.setCell ?_ ?_ _) | (with_reducible refine Below.trans ?_ (Below.mono (by assumption) ?_)) | (with_reducible exact Nat.le_refl _) | (with_reducible assumption) | omega | (simp; omega) | (simp; done)))⟩
        case measure => simp [intOf]; omega
      · have HNN := Lib.hid (hnn hy)
        rw [decide_eq_false hy] at HZ'
        clear hyy hnn hy
        generalize f k = y at *
        have hsub := hsb
        clear hsb
        have hwr2 : IntKind.i64.wrap ((j + 1 : Nat) : Int) = ((j + 1 : Nat) : Int) := IntWalk.i64_in _ (by omega)
        generalize j + 1 = j1 at *
        go_wp2_with fail
        refine (HZ'.out _).mono ?_
        rintro e w2 ⟨rfl, hb2⟩
        have hz_hb2 := hb2.size; (try simp at hz_hb2)
        have HB2 := Lib.hid hb2; clear hb2
        go_wp2_with fail
        refine (HC'.out _).mono ?_
        rintro e w3 ⟨rfl, hb3⟩
        have hz_hb3 := hb3.size; (try simp at hz_hb3)
        have HB3 := Lib.hid hb3; clear hb3
        go_wp2_with fail
        go_roundw
        case rel => exact ⟨j1, by rw [HK.out]; omega, by rw [HNN.out], by rw [HK.out]; first | rfl | go_num, by have hb := HB.out; have hb2 := HB2.out; have hb3 := HB3.out; (repeat' (first | (with_reducible assumption) | (with_reducible exact Below.refl _ _) | (with_reducible refine below_drewN ?_ _) | (with_reducible refine Below.drew ?_) | (with_reducible refine Below.alloc ?_ ?_ _) | (with_reducible refine Below.setCell ?_ ?_ _) | (with_reducible refine Below.trans ?_ (Below.mono (by assumption) ?_)) | (with_reducible exact Nat.le_refl _) | (with_reducible assumption) | omega | (simp; omega) | (simp; done)))⟩
        case measure => simp [intOf]; omega
    · replace hjn : n - (r + 1) = j := by omega
      clear hk hsb
      have HB := Lib.hid hb; clear hb
      have HJN := Lib.hid hjn
      have hkn : ¬ (k : Int) < (n : Int) := by omega
      clear hjn
      go_wp2
      go_ret2
      have hb := HB.out
      have hb1 := HB1.out
      exact ⟨by rw [HJN.out]; rfl, by (repeat' (first | (with_reducible assumption) | (with_reducible exact Below.refl _ _) | (with_reducible refine below_drewN ?_ _) | (with_reducible refine Below.drew ?_) | (with_reducible refine Below.alloc ?_ ?_ _) | (with_reducible refine Below.setCell ?_ ?_ _) | (with_reducible refine Below.trans ?_ (Below.mono (by assumption) ?_)) | (with_reducible exact Nat.le_refl _) | (with_reducible assumption) | omega | (simp; omega) | (simp; done)))⟩
end Go.Proofs.Ytnmdcmbcackchab
