/- IndexedPermutes, of both, by contracts; the walk of its law. -/
import Derived.Test.YtkjpkdecoeoghaaNU
namespace Go.Proofs.Ytkjpkdecoeoghaa
open Go.RowKit
theorem ret_bbt {a b c : Bool} (h : a = b) : Ending.returned (.tuple #[.bool a, .bool c]) = .returned (.tuple #[.bool b, .bool c]) := by rw [h]
theorem hasRow {w : World} {B : Nat} {v : Value} {l : List Int} (n : Int) (h : Row w B v l) (hl : l.length ≤ 1000) :
    Calls Try.prog 26 #[v, .int .i64 n] w fun e w' => e = .returned (.bool (l.contains n)) ∧ w = w' := by
  by_cases h0 : 0 < l.length
  · obtain ⟨g, cap, rfl, _, _⟩ := h.form h0
    exact has_any g 0 l.length cap l n w rfl (by omega) fun j hj => by rw [Nat.zero_add]; exact h.cell j hj
  · obtain rfl : l = [] := List.eq_nil_of_length_eq_zero (by omega)
    rcases h.2 with ⟨rfl, _⟩ | ⟨g, cap, cur, rfl, _⟩
    · exact has_nil _ _ n w
    · exact has_nil _ _ n w
theorem spec_IndexedPermutes_no (q r s : Int) (v : Value) (l : List Int) (w : World) (hv : Sl w v l) (hl : l.length ≤ 1048576) (h : ixd q r s l = false) :
    Calls Try.prog 10 #[.int .i64 q, .int .i64 r, .int .i64 s, v] w fun e w' => e = .returned (.tuple #[.bool false, .bool false]) ∧ Below w.heap.size w w' := by
  have HX := Lib.hid (kdIndexed_any q r s v l w hv hl)
  rw [h] at HX
  clear hv h
  go_enter Try.func10, Try.ntmps10
  go_wp2_with fail
  refine HX.out.mono ?_
  rintro e w1 ⟨rfl, hb1⟩
  go_wp2
  go_ret2
  exact ⟨rfl, hb1⟩
theorem impl_IndexedPermutes_no (q r s : Int) (v : Value) (l : List Int) (w : World) (hv : Sl w v l) (hl : l.length ≤ 1048576) (h : ixd q r s l = false) :
    Calls Try.prog 12 #[.int .i64 q, .int .i64 r, .int .i64 s, v] w fun e w' => e = .returned (.tuple #[.bool false, .bool false]) ∧ Below w.heap.size w w' := by
  have HX := Lib.hid (validIndexed_no q r s v l w hv hl h)
  clear hv h
  go_enter Try.func12, Try.ntmps12
  go_wp2_with fail
  refine HX.out.mono ?_
  rintro e w1 ⟨rfl, hb1⟩
  obtain ⟨hc1, hf1⟩ := bcell hb1; have hz1 := hb1.size; (try simp at hz1); have HB1 := Lib.hid hb1; clear hb1
  go_wp2
  go_ret2
  have hb1 := HB1.out
  exact ⟨rfl, by (repeat' (first | (with_reducible assumption) | (with_reducible exact Below.refl _ _) | (with_reducible refine below_drewN ?_ _) | (with_reducible refine Below.drew ?_) | (with_reducible refine Below.alloc ?_ ?_ _) | (with_reducible refine Below.setCell ?_ ?_ _) | (with_reducible refine Below.trans ?_ (Below.mono (by assumption) ?_)) | (with_reducible exact Nat.le_refl _) | (with_reducible assumption) | omega | (simp; omega) | (simp; done)))⟩
/-- The answer. -/
def ipA (m R S : Nat) (l : List Int) : Bool := npm R S && apart (chg m R S (fun i => l.getD i 0) l.length) (wh (isRt (m : Int) ((m - 1) / S)) m) []
set_option maxHeartbeats 2000000 in
theorem impl_IndexedPermutes_yes (m R S : Nat) (v : Value) (l : List Int) (w : World) (h : isSz (m : Int) = true) (hR1 : 1 ≤ R) (hR : R ≤ m - 1) (hS1 : 1 ≤ S) (hS : S ≤ m - 1) (hd : dvd (m : Int) (S : Int) = true) (hv : Sl w v l) (hg : good (m : Int) l = true) :
    Calls Try.prog 12 #[.int .i64 m, .int .i64 R, .int .i64 S, v] w fun e w' => e = .returned (.tuple #[.bool (ipA m R S l), .bool true]) ∧ Below w.heap.size w w' := by
  have hq := isSz_le (m : Int) h
  have hlen := (good_parts hg).1
  have HX := Lib.hid (validIndexed_yes m R S v l w h hR1 hR hd hv hg)
  have HI := Lib.hid (fun g w' (hg' : g < w'.heap.size) (he : Els w' g (m : Int) (fun i => l.getD i 0) l.length) => indexedPermutesE m g l.length l.length R S (fun i => l.getD i 0) w' h (by omega) hS1 hS hg' he (all_el h (good_parts hg).2) (by omega))
  unfold ipA
  clear h hd hv hg
  generalize (npm R S && apart (chg m R S (fun i => l.getD i 0) l.length) (wh (isRt (m : Int) ((m - 1) / S)) m) []) = ans at *
  generalize (fun i => l.getD i 0) = f at *
  generalize l.length = n at *
  go_enter Try.func12, Try.ntmps12
  go_wp2_with fail
  refine HX.out.mono ?_
  rintro e w1 ⟨g1, rfl, hgl1, he1, hb1⟩
  have HE1 := Lib.hid he1; clear he1
  obtain ⟨hc1, hf1⟩ := bcell hb1; have hz1 := hb1.size; (try simp at hz1); have HB1 := Lib.hid hb1; clear hb1
  go_wp2_with fail
  refine (HI.out g1 _ (by simp; omega) (HE1.out.below (B := w1.heap.size) (by (repeat' (first | (with_reducible assumption) | (with_reducible exact Below.refl _ _) | (with_reducible refine below_drewN ?_ _) | (with_reducible refine Below.drew ?_) | (with_reducible refine Below.alloc ?_ ?_ _) | (with_reducible refine Below.setCell ?_ ?_ _) | (with_reducible refine Below.trans ?_ (Below.mono (by assumption) ?_)) | (with_reducible exact Nat.le_refl _) | (with_reducible assumption) | omega | (simp; omega) | (simp; done)))) hgl1)).mono ?_
  rintro e w2 ⟨rfl, hb2⟩
  obtain ⟨hc2, hf2⟩ := bcell hb2; have hz2 := hb2.size; (try simp at hz2); have HB2 := Lib.hid hb2; clear hb2
  go_wp2
  go_ret2
  have hb1 := HB1.out
  have hb2 := HB2.out
  exact ⟨rfl, by (repeat' (first | (with_reducible assumption) | (with_reducible exact Below.refl _ _) | (with_reducible refine below_drewN ?_ _) | (with_reducible refine Below.drew ?_) | (with_reducible refine Below.alloc ?_ ?_ _) | (with_reducible refine Below.setCell ?_ ?_ _) | (with_reducible refine Below.trans ?_ (Below.mono (by assumption) ?_)) | (with_reducible exact Nat.le_refl _) | (with_reducible assumption) | omega | (simp; omega) | (simp; done)))⟩
theorem row_slice {w : World} {B : Nat} {v : Value} {l : List Int} (h : Row w B v l) : ∃ a cap, v = .slice a l.length cap ∧ (0 < l.length → ∃ g, a = some ⟨g, 0, none⟩ ∧ g < w.heap.size ∧ ∀ i, i < l.length → w.cell? ⟨g, i, none⟩ = some (.int .i64 (l.getD i 0))) := by
  by_cases h0 : 0 < l.length
  · obtain ⟨g, cap, rfl, _, hg⟩ := h.form h0
    exact ⟨_, _, rfl, fun _ => ⟨g, rfl, hg, fun i hi => h.cell i hi⟩⟩
  · obtain rfl : l = [] := List.eq_nil_of_length_eq_zero (by omega)
    rcases h.2 with ⟨rfl, _⟩ | ⟨g, cap, cur, rfl, _⟩
    · exact ⟨_, _, rfl, fun h => absurd h h0⟩
    · exact ⟨_, _, rfl, fun h => absurd h h0⟩
set_option maxRecDepth 100000 in
set_option maxHeartbeats 4000000 in
theorem spec_IndexedPermutes_yes (m R S : Nat) (v : Value) (l : List Int) (w : World) (h : isSz (m : Int) = true) (hx : ixd (m : Int) (R : Int) (S : Int) l = true) (hR1 : 1 ≤ R) (hR : R ≤ m - 1) (hS1 : 1 ≤ S) (hS : S ≤ m - 1) (hv : Sl w v l) (hg : good (m : Int) l = true) :
    Calls Try.prog 10 #[.int .i64 m, .int .i64 R, .int .i64 S, v] w fun e w' => e = .returned (.tuple #[.bool (ipA m R S l), .bool true]) ∧ Below w.heap.size w w' := by
  obtain ⟨i0, hi, iz0, iz1, iz2⟩ := info_parts Try.infoI
  have hq := isSz_le (m : Int) h
  have hlen := (good_parts hg).1
  have HX := Lib.hid (kdIndexed_any (m : Int) (R : Int) (S : Int) v l w hv (by omega))
  rw [hx] at HX
  have HG := Lib.hid (fun w => peGcd_any S R w (by omega) (by omega))
  obtain ⟨D, hD⟩ : ∃ x, (m - 1) / S = x := ⟨_, rfl⟩
  have hD2 : D ≤ 15 := by rw [← hD]; exact Nat.le_trans (Nat.div_le_self _ _) (by omega)
  have hquo : ((m : Int) - 1).tdiv (S : Int) = (D : Int) := by rw [← hD, show (m : Int) - 1 = ((m - 1 : Nat) : Int) by omega]; rfl
  have HK := Lib.hid (fun w => kdRoots_any m D w h hD2)
  have hfew := wh_len (isRt (m : Int) D) m
  have HEL : Hid (∀ i, El (m : Int) ((wh (isRt (m : Int) D) m).getD i 0)) := Lib.hid (wh_els h)
  have hae := all_el h (good_parts hg).2
  have HP1 : Hid (∀ y w, El (m : Int) y → Calls Try.prog 24 #[.int .i64 m, .int .i64 y, .int .i64 R] w fun e w' => e = .returned (.int .i64 (pw m y R)) ∧ Below w.heap.size w w') := Lib.hid fun y w hy => by have := fdPower_any (m : Int) y (R : Int) w h hy.1 hy.2 (by omega) (by omega); rw [Int.toNat_natCast] at this; exact this
  have HP2 : Hid (∀ y w, El (m : Int) y → Calls Try.prog 24 #[.int .i64 m, .int .i64 y, .int .i64 S] w fun e w' => e = .returned (.int .i64 (pw m y S)) ∧ Below w.heap.size w w') := Lib.hid fun y w hy => by have := fdPower_any (m : Int) y (S : Int) w h hy.1 hy.2 (by omega) (by omega); rw [Int.toNat_natCast] at this; exact this
  have HA := Lib.hid (fun y w' (hb : Below w.heap.size w w') (hy : El (m : Int) y) => plAt_any (m : Int) y v (fun i => l.getD i 0) l.length l w' h hy (hv.below hb (Nat.le_refl _)) rfl (fun _ _ => rfl) (fun i _ => hae i) (by omega))
  have HHE := Lib.hid (fun y (hy : El (m : Int) y) => hor_el (n := l.length) h hy (fun i _ => hae i) l.length (Nat.le_refl _))
  have HPE := Lib.hid (fun y k (hy : El (m : Int) y) => El.pw h hy k)
  have HT := Lib.hid (fun x y w (hx : El (m : Int) x) (hy : El (m : Int) y) => fdTimes_any (m : Int) x y w h hx.1 hx.2 hy.1 hy.2)
  have hS0 : (S : Int) ≠ 0 := by omega
  have hS0n : ¬ S = 0 := by omega
  have hwr1 : IntKind.i64.wrap ((m : Int) - 1) = (m : Int) - 1 := IntWalk.i64_in _ (by omega)
  have hwr2 : IntKind.i64.wrap (D : Int) = (D : Int) := IntWalk.i64_in _ (by omega)
  have hnp := npm_pos (m := S) hR1
  have hgp : 0 < Nat.gcd R S := Nat.gcd_pos_of_pos_left _ hR1
  unfold ipA
  rw [hD, hnp]
  clear hD hnp hx h hv hg hae
  obtain ⟨z, hz⟩ : ∃ x, Nat.gcd R S = x := ⟨_, rfl⟩
  rw [hz] at HG hgp ⊢
  clear hz
  obtain ⟨rs, hrs⟩ : ∃ x, wh (isRt (m : Int) D) m = x := ⟨_, rfl⟩
  rw [hrs] at HK hfew HEL ⊢
  clear hrs
  by_cases hz1 : z = 1
  · subst hz1
    have HAS := Lib.hid (apart_step (chg m R S (fun i => l.getD i 0) l.length) rs)
    have HAN := Lib.hid (apart_end (chg m R S (fun i => l.getD i 0) l.length) rs)
    have HUU : Hid (∀ y, mulF m (pw m y R) (pw m (hor m y (fun i => l.getD i 0) l.length l.length) S) = chg m R S (fun i => l.getD i 0) l.length y) := Lib.hid fun _ => rfl
    have HANS : Hid ((isOne 1 && apart (chg m R S (fun i => l.getD i 0) l.length) rs []) = apart (chg m R S (fun i => l.getD i 0) l.length) rs []) := Lib.hid (Bool.true_and _)
    rw [HANS.out]
    generalize chg m R S (fun i => l.getD i 0) l.length = u at *
    go_enter Try.func10, Try.ntmps10
    go_wp2_with fail
    refine HX.out.mono ?_
    rintro e w1 ⟨rfl, hb1⟩
    obtain ⟨hc1, hf1⟩ := bcell hb1; have hz1 := hb1.size; (try simp at hz1); have HB1 := Lib.hid hb1; clear hb1
    go_wp2_with fail
    refine (HG.out _).mono ?_
    rintro e w2 ⟨rfl, hb2⟩
    obtain ⟨hc2, hf2⟩ := bcell hb2; have hz2 := hb2.size; (try simp at hz2); have HB2 := Lib.hid hb2; clear hb2
    go_wp2_with fail
    refine (HK.out _).mono ?_
    rintro e w3 ⟨v3, rfl, hr3, hb3⟩
    obtain ⟨a3, cap3, rfl, ha3⟩ := row_slice hr3
    clear hr3
    obtain ⟨hc3, hf3⟩ := bcell hb3; have hz3 := hb3.size; (try simp at hz3); have HB3 := Lib.hid hb3; clear hb3
    have HB3w : Hid (Below w.heap.size w w3) := Lib.hid (by have hb1 := HB1.out; have hb2 := HB2.out; have hb3 := HB3.out; (repeat' (first | (with_reducible assumption) | (with_reducible exact Below.refl _ _) | (with_reducible refine below_drewN ?_ _) | (with_reducible refine Below.drew ?_) | (with_reducible refine Below.alloc ?_ ?_ _) | (with_reducible refine Below.setCell ?_ ?_ _) | (with_reducible refine Below.trans ?_ (Below.mono (by assumption) ?_)) | (with_reducible exact Nat.le_refl _) | (with_reducible assumption) | omega | (simp; omega) | (simp; done))))
    have hzz3 := HB3w.out.size
    obtain ⟨N, hN⟩ : ∃ x, rs.length = x := ⟨_, rfl⟩
    rw [hN]
    go_wp2_with fail
    go_loopw [10, 31] (fun vo vi wr => ∃ (i : Nat) (met : List Int), i ≤ N ∧ vi = .int .i64 i ∧ met.length = i ∧ apart u (rs.drop i) met = apart u rs [] ∧ Row wr w3.heap.size vo met ∧ Below w3.heap.size w3 wr) (fun _ vi _ => N - (intOf vi).toNat)
    case atStart => exact ⟨0, [], Nat.zero_le _, rfl, rfl, rfl, Row.nil _ _, Below.refl _ _⟩
    case round =>
      obtain ⟨i, met, hi', rfl, rfl, hap, hr, hbw⟩ := hrel
      have hzw := hbw.size
      by_cases hlt : met.length < N
      · obtain ⟨g, rfl, hgl, hce⟩ := ha3 (by omega)
        have hcl := (hbw.cell (p := ⟨g, met.length, none⟩) hgl).trans (hce met.length (by omega))
        have hy := HEL.out met.length
        have hst := HAS.out met met.length (by omega)
        rw [hap] at hst
        generalize rs.getD met.length 0 = y at *
        have hh := HHE.out y hy
        have HP1' := Lib.hid (fun w => HP1.out y w hy)
        have HA' := Lib.hid (fun w' hb => HA.out y w' hb hy)
        have huu := HUU.out y
        generalize hor m y (fun i => l.getD i 0) l.length l.length = z at *
        have HP2' := Lib.hid (fun w => HP2.out z w hh)
        have h1 := HPE.out y R hy
        have h2 := HPE.out z S hh
        generalize pw m y R = x1 at *
        generalize pw m z S = x2 at *
        have HT' := Lib.hid (fun w => HT.out x1 x2 w h1 h2)
        rw [huu] at HT'
        generalize u y = x at *
        have HST := Lib.hid hst
        have HBW : Hid (Below w.heap.size w wr) := Lib.hid (by have hb3 := HB3w.out; (repeat' (first | (with_reducible assumption) | (with_reducible exact Below.refl _ _) | (with_reducible refine below_drewN ?_ _) | (with_reducible refine Below.drew ?_) | (with_reducible refine Below.alloc ?_ ?_ _) | (with_reducible refine Below.setCell ?_ ?_ _) | (with_reducible refine Below.trans ?_ (Below.mono (by assumption) ?_)) | (with_reducible exact Nat.le_refl _) | (with_reducible assumption) | omega | (simp; omega) | (simp; done))))
        have HBR := Lib.hid hbw
        have HR := Lib.hid hr
        clear hst hap huu hy hh h1 h2 hbw hr hce
        go_wp2_with fail
        refine (HP1'.out _).mono ?_
        rintro e w5 ⟨rfl, hb5⟩
        have hz_hb5 := hb5.size; (try simp at hz_hb5)
        have HB5 := Lib.hid hb5; clear hb5
        go_wp2_with fail
        refine (HA'.out _ (by have hbw := HBW.out; have hb5 := HB5.out; (repeat' (first | (with_reducible assumption) | (with_reducible exact Below.refl _ _) | (with_reducible refine below_drewN ?_ _) | (with_reducible refine Below.drew ?_) | (with_reducible refine Below.alloc ?_ ?_ _) | (with_reducible refine Below.setCell ?_ ?_ _) | (with_reducible refine Below.trans ?_ (Below.mono (by assumption) ?_)) | (with_reducible exact Nat.le_refl _) | (with_reducible assumption) | omega | (simp; omega) | (simp; done))))).mono ?_
        rintro e w6 ⟨rfl, hb6⟩
        have hz_hb6 := hb6.size; (try simp at hz_hb6)
        have HB6 := Lib.hid hb6; clear hb6
        go_wp2_with fail
        refine (HP2'.out _).mono ?_
        rintro e w7 ⟨rfl, hb7⟩
        have hz_hb7 := hb7.size; (try simp at hz_hb7)
        have HB7 := Lib.hid hb7; clear hb7
        go_wp2_with fail
        refine (HT'.out _).mono ?_
        rintro e w8 ⟨rfl, hb8⟩
        have hz_hb8 := hb8.size; (try simp at hz_hb8)
        have HB8 : Hid (Below wr.heap.size wr w8) := Lib.hid (by have hb5 := HB5.out; have hb6 := HB6.out; have hb7 := HB7.out; (repeat' (first | (with_reducible assumption) | (with_reducible exact Below.refl _ _) | (with_reducible refine below_drewN ?_ _) | (with_reducible refine Below.drew ?_) | (with_reducible refine Below.alloc ?_ ?_ _) | (with_reducible refine Below.setCell ?_ ?_ _) | (with_reducible refine Below.trans ?_ (Below.mono (by assumption) ?_)) | (with_reducible exact Nat.le_refl _) | (with_reducible assumption) | omega | (simp; omega) | (simp; done))))
        clear hb8 HB5 HB6 HB7
        have HR8 := Lib.hid (HR.out.below HB8.out)
        have HBW8 : Hid (Below w3.heap.size w3 w8) := Lib.hid (by have hbr := HBR.out; have hb8 := HB8.out; (repeat' (first | (with_reducible assumption) | (with_reducible exact Below.refl _ _) | (with_reducible refine below_drewN ?_ _) | (with_reducible refine Below.drew ?_) | (with_reducible refine Below.alloc ?_ ?_ _) | (with_reducible refine Below.setCell ?_ ?_ _) | (with_reducible refine Below.trans ?_ (Below.mono (by assumption) ?_)) | (with_reducible exact Nat.le_refl _) | (with_reducible assumption) | omega | (simp; omega) | (simp; done))))
        have HB8w : Hid (Below w.heap.size w w8) := Lib.hid (by have hbw := HBW.out; have hb8 := HB8.out; (repeat' (first | (with_reducible assumption) | (with_reducible exact Below.refl _ _) | (with_reducible refine below_drewN ?_ _) | (with_reducible refine Below.drew ?_) | (with_reducible refine Below.alloc ?_ ?_ _) | (with_reducible refine Below.setCell ?_ ?_ _) | (with_reducible refine Below.trans ?_ (Below.mono (by assumption) ?_)) | (with_reducible exact Nat.le_refl _) | (with_reducible assumption) | omega | (simp; omega) | (simp; done))))
        have hz8 := HBW8.out.size
        by_cases hx0 : x = 0
        · have HF : Hid (apart u rs [] = false) := Lib.hid (by rw [HST.out, hx0]; simp)
          clear HST
          subst hx0
          go_wp2_with fail
          go_ret2
          exact ⟨ret_bbt (by rw [HF.out]), HB8w.out⟩
        · have HL := Lib.hid (hasRow x HR8.out (by omega))
          cases hk : met.contains x with
          | true =>
            have HF : Hid (apart u rs [] = false) := Lib.hid (by rw [HST.out, hk]; simp)
            rw [hk] at HL
            clear hk HST
            go_wp2_with fail
            refine HL.out.mono ?_
            rintro e _ ⟨rfl, rfl⟩
            go_wp2_with fail
            go_ret2
            exact ⟨ret_bbt (by rw [HF.out]), HB8w.out⟩
          | false =>
            have HF : Hid (apart u (rs.drop (met.length + 1)) (met ++ [x]) = apart u rs []) := Lib.hid (by rw [HST.out, hk]; simp [hx0])
            rw [hk] at HL
            clear hk HST
            go_wp2_with fail
            refine HL.out.mono ?_
            rintro e _ ⟨rfl, rfl⟩
            go_wp2_with (first | (at_builtin; refine wpList_append_own _ rfl _ _ 22 rfl w3.heap.size 3 i0 (.int .i64 0) 1 8 Try.underlying22 hi iz0 iz1 iz2 rfl (by decide) _ _ _ rfl (World.ownsRow.alloc HR8.out _) ⟨w8.heap.size, 0, none⟩ 1 1 [.int .i64 x] rfl rfl ?c1 ?c2 ?c3 ?c4 ?c5 ?_) | fail)
            case c1 => exact cell_one_new _ _ _
            case c2 => intro u hu; simp at hu; subst hu; rfl
            case c3 => unfold maxLen; omega
            case c4 => omega
            case c5 => simp; omega
            intro v' w9 hown hgrow _
            have HR9 := Lib.hid (Row.appended hown)
            have hb : Below w3.heap.size w3 (w8.alloc (.cells #[.int .i64 x] 3)) := HBW8.out.alloc (by omega) _
            have HB9 := Lib.hid (hb.grown hgrow (by simp; omega) (fun g hg => (HR8.out.lt g hg).1))
            clear hown hgrow hb
            go_wp2
            go_roundw
            case rel => exact ⟨met.length + 1, met ++ [x], by omega, by first | rfl | go_num, by simp, HF.out, HR9.out, HB9.out⟩
            case measure => simp [intOf]; omega
      · obtain rfl : N = met.length := by omega
        have HF := Lib.hid (hap.symm.trans (HAN.out met met.length (by omega)))
        have HBW : Hid (Below w.heap.size w wr) := Lib.hid (by have hb3 := HB3w.out; (repeat' (first | (with_reducible assumption) | (with_reducible exact Below.refl _ _) | (with_reducible refine below_drewN ?_ _) | (with_reducible refine Below.drew ?_) | (with_reducible refine Below.alloc ?_ ?_ _) | (with_reducible refine Below.setCell ?_ ?_ _) | (with_reducible refine Below.trans ?_ (Below.mono (by assumption) ?_)) | (with_reducible exact Nat.le_refl _) | (with_reducible assumption) | omega | (simp; omega) | (simp; done))))
        clear hap hr hbw ha3
        go_wp2
        go_ret2
        exact ⟨ret_bbt (by rw [HF.out]), HBW.out⟩
  · have hz2 : (1 : Int) < (z : Int) := by omega
    have HO : Hid ((isOne z && apart (chg m R S (fun i => l.getD i 0) l.length) rs []) = false) := Lib.hid (by rw [show isOne z = false by simp [isOne, hz1]]; rfl)
    go_enter Try.func10, Try.ntmps10
    go_wp2_with fail
    refine HX.out.mono ?_
    rintro e w1 ⟨rfl, hb1⟩
    obtain ⟨hc1, hf1⟩ := bcell hb1; have hz1 := hb1.size; (try simp at hz1); have HB1 := Lib.hid hb1; clear hb1
    go_wp2_with fail
    refine (HG.out _).mono ?_
    rintro e w2 ⟨rfl, hb2⟩
    obtain ⟨hc2, hf2⟩ := bcell hb2; have hz2 := hb2.size; (try simp at hz2); have HB2 := Lib.hid hb2; clear hb2
    go_wp2_with fail
    go_ret2
    have hb1 := HB1.out
    have hb2 := HB2.out
    exact ⟨ret_bbt (by rw [HO.out]), by (repeat' (first | (with_reducible assumption) | (with_reducible exact Below.refl _ _) | (with_reducible refine below_drewN ?_ _) | (with_reducible refine Below.drew ?_) | (with_reducible refine Below.alloc ?_ ?_ _) | (with_reducible refine Below.setCell ?_ ?_ _) | (with_reducible refine Below.trans ?_ (Below.mono (by assumption) ?_)) | (with_reducible exact Nat.le_refl _) | (with_reducible assumption) | omega | (simp; omega) | (simp; done)))⟩

theorem key_IndexedPermutes (q r s : Int) (l_h : List Int) (b_h : l_h.length ≤ 1048576) : ∃ (x : Bool) (o : Bool), (∀ (w : World) (v_h : Value) (_ : Sl w v_h l_h), Calls Try.prog 10 #[.int .i64 q, .int .i64 r, .int .i64 s, v_h] w fun e w' => e = .returned (.tuple #[.bool x, .bool o]) ∧ Below w.heap.size w w') ∧
      (∀ (w : World) (v_h : Value) (_ : Sl w v_h l_h), Calls Try.prog 12 #[.int .i64 q, .int .i64 r, .int .i64 s, v_h] w fun e w' => e = .returned (.tuple #[.bool x, .bool o]) ∧ Below w.heap.size w w') := by
  cases h : ixd q r s l_h with
  | false => exact ⟨false, false, fun w vf hf => spec_IndexedPermutes_no q r s vf l_h w hf b_h h, fun w vf hf => impl_IndexedPermutes_no q r s vf l_h w hf b_h h⟩
  | true =>
    obtain ⟨m, R, S, rfl, rfl, rfl, hs, hR1, hR, hS1, hS, _, hg, hd⟩ := ixd_nat h
    exact ⟨_, true, fun w vf hf => spec_IndexedPermutes_yes m R S vf l_h w hs h hR1 hR hS1 hS hf hg, fun w vf hf => impl_IndexedPermutes_yes m R S vf l_h w hs hR1 hR hS1 hS hd hf hg⟩
set_option maxRecDepth 100000 in
set_option maxHeartbeats 4000000 in
/-- laws.FnExactIndexedPermutes. -/
theorem walk_FnExactIndexedPermutes (q : Int) (r : Int) (s : Int) (a_h : Option Addr) (n_h c_h : Nat) (z_h : List Int) (w : World) (_h_q : (Lit.int .i64 q).wf = true) (_h_r : (Lit.int .i64 r).wf = true) (_h_s : (Lit.int .i64 s).wf = true) (h_h : IsRow .i64 w a_h n_h c_h z_h) :
    Calls Try.prog 4 #[.int .i64 q, .int .i64 r, .int .i64 s, .slice a_h n_h c_h] w fun e w' => e = .returned (.bool true) ∧ Below w.heap.size w w' := by
  clear _h_q
  clear _h_r
  clear _h_s
  obtain ⟨hs_h, hl_h, _⟩ := h_h.sl
  generalize z_h.take n_h = l_h at *
  clear h_h
  subst hl_h
  by_cases b_h : l_h.length ≤ 1048576
  rotate_left
  · have hn_h : (1048576 : Int) < (l_h.length : Int) := by omega
    go_enter Try.func4, Try.ntmps4
    go_wp2
    go_ret
    exact ⟨rfl, Below.refl _ _⟩
  have hn_h : ¬ (1048576 : Int) < (l_h.length : Int) := by omega
  obtain ⟨r, o, k1, k2⟩ := key_IndexedPermutes q r s l_h b_h
  have K1 := Lib.hid k1; clear k1
  have K2 := Lib.hid k2; clear k2
  have HS_h := Lib.hid hs_h; clear hs_h
  have HB0 : Hid (Below w.heap.size w w) := Lib.hid (Below.refl _ _)
  go_enter Try.func4, Try.ntmps4
  go_wp2_with fail
  refine (toIntS_any _ l_h _ (HS_h.out.below HB0.out (Nat.le_refl _)) b_h).mono ?_
  rintro e w1 ⟨v_s_h, rfl, hrw1, hbw1⟩
  have hzw1 : w.heap.size ≤ w1.heap.size := hbw1.size
  have HBw1 : Hid (Below w.heap.size w w1) := Lib.hid (HB0.out.trans (hbw1.mono HB0.out.size))
  have hww1 := HBw1.out.size
  clear hbw1 HB0
  have R_s_h_w1 := Lib.hid hrw1; clear hrw1
  have lt_s_h : Hid (∀ g, v_s_h.ownBlock = some g → w.heap.size ≤ g ∧ g < w1.heap.size) := Lib.hid R_s_h_w1.out.lt
  go_wp2_with fail
  refine (K1.out _ v_s_h R_s_h_w1.out.sl).mono ?_
  rintro e w2 ⟨rfl, hbw2⟩
  have hzw2 : w1.heap.size ≤ w2.heap.size := hbw2.size
  have R_s_h_w2 := Lib.hid (R_s_h_w1.out.below hbw2)
  clear R_s_h_w1
  have HBw2 : Hid (Below w.heap.size w w2) := Lib.hid (HBw1.out.trans (hbw2.mono HBw1.out.size))
  have hww2 := HBw2.out.size
  clear hbw2 HBw1
  clear R_s_h_w2 lt_s_h
  go_wp2_with fail
  refine (toIntS_any _ l_h _ (HS_h.out.below HBw2.out (Nat.le_refl _)) b_h).mono ?_
  rintro e w3 ⟨v_x_h, rfl, hrw3, hbw3⟩
  have hzw3 : w2.heap.size ≤ w3.heap.size := hbw3.size
  have HBw3 : Hid (Below w.heap.size w w3) := Lib.hid (HBw2.out.trans (hbw3.mono HBw2.out.size))
  have hww3 := HBw3.out.size
  clear hbw3 HBw2
  have R_x_h_w3 := Lib.hid hrw3; clear hrw3
  have lt_x_h : Hid (∀ g, v_x_h.ownBlock = some g → w2.heap.size ≤ g ∧ g < w3.heap.size) := Lib.hid R_x_h_w3.out.lt
  go_wp2_with fail
  refine (K2.out _ v_x_h R_x_h_w3.out.sl).mono ?_
  rintro e w4 ⟨rfl, hbw4⟩
  have hzw4 : w3.heap.size ≤ w4.heap.size := hbw4.size
  have R_x_h_w4 := Lib.hid (R_x_h_w3.out.below hbw4)
  clear R_x_h_w3
  have HBw4 : Hid (Below w.heap.size w w4) := Lib.hid (HBw3.out.trans (hbw4.mono HBw3.out.size))
  have hww4 := HBw4.out.size
  clear hbw4 HBw3
  go_wp2_with fail
  refine (toIntS_any _ l_h _ (HS_h.out.below HBw4.out (Nat.le_refl _)) b_h).mono ?_
  rintro e w5 ⟨v_y_h, rfl, hrw5, hbw5⟩
  have hzw5 : w4.heap.size ≤ w5.heap.size := hbw5.size
  have R_x_h_w5 := Lib.hid (R_x_h_w4.out.below hbw5)
  clear R_x_h_w4
  have HBw5 : Hid (Below w.heap.size w w5) := Lib.hid (HBw4.out.trans (hbw5.mono HBw4.out.size))
  have hww5 := HBw5.out.size
  clear hbw5 HBw4
  have R_y_h_w5 := Lib.hid hrw5; clear hrw5
  have lt_y_h : Hid (∀ g, v_y_h.ownBlock = some g → w4.heap.size ≤ g ∧ g < w5.heap.size) := Lib.hid R_y_h_w5.out.lt
  go_wp2_with fail
  refine (eq_same v_x_h v_y_h l_h _ _ _ R_x_h_w5.out R_y_h_w5.out (by omega)).mono ?_
  rintro e w6 ⟨rfl, hbw6⟩
  have hzw6 : w5.heap.size ≤ w6.heap.size := hbw6.size
  have R_x_h_w6 := Lib.hid (R_x_h_w5.out.below hbw6)
  clear R_x_h_w5
  have R_y_h_w6 := Lib.hid (R_y_h_w5.out.below hbw6)
  clear R_y_h_w5
  have HBw6 : Hid (Below w.heap.size w w6) := Lib.hid (HBw5.out.trans (hbw6.mono HBw5.out.size))
  have hww6 := HBw6.out.size
  clear hbw6 HBw5
  clear R_y_h_w6 lt_y_h
  go_wp2
  go_ret
  exact ⟨rfl, HBw6.out⟩
end Go.Proofs.Ytkjpkdecoeoghaa
