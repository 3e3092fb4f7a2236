/- Several texts in one (tools/upbundle.py): RQ DQ VD IM ZT ZS ZU ZW. -/
import Derived.Test.YtapglncgicfjnabGreatRM
import Derived.Test.YtapglncgicfjnabGreatLV
import Derived.Deep.RegionHeld3
import Derived.Test.YtapglncgicfjnabGreatKG
import Derived.Test.YtapglncgicfjnabGreatKI
import Derived.Test.YtapglncgicfjnabGreatKM
import Derived.Test.YtapglncgicfjnabGreatKN
import Derived.Test.YtapglncgicfjnabGreatKO
import Derived.Test.YtapglncgicfjnabGreatZP0
import Derived.Test.YtapglncgicfjnabGreatVL
import Derived.Test.YtapglncgicfjnabGreatZWA
import Derived.Test.YtapglncgicfjnabGreatDP
import Derived.Test.YtapglncgicfjnabGreatKL
import Derived.Test.YtapglncgicfjnabGreatVK
import Derived.Test.YtapglncgicfjnabGreatKR
import Derived.Deep.DeepCutAuto
/-! RQ -/
namespace Go.Proofs.YtapglncgicfjnabGreat
open Go.RowKit
/-- v reads as n lists. -/
def Sls (w : World) (v : Value) (n : Nat) (F : Nat → List Int) : Prop :=
  (n = 0 ∧ ∃ a cap, v = .slice a 0 cap) ∨
  ∃ b off cap, ∃ X : Nat → Value, v = .slice (some ⟨b, off, none⟩) n cap ∧ b < w.heap.size ∧ ∀ i, i < n → w.cell? ⟨b, off + i, none⟩ = some (X i) ∧ Sl w (X i) (F i)
theorem Sls.below {w w' : World} {v : Value} {n B : Nat} {F : Nat → List Int} (h : Sls w v n F) (hb : Below B w w') (hB : w.heap.size ≤ B) : Sls w' v n F := by
  rcases h with h | ⟨b, off, cap, X, rfl, hlt, hc⟩
  · exact .inl h
  · exact .inr ⟨b, off, cap, X, rfl, by have := hb.size; omega, fun i hi => ⟨(hb.cell (p := ⟨b, off + i, none⟩) (show b < B by omega)).trans (hc i hi).1, (hc i hi).2.below hb hB⟩⟩
theorem Sls.form {w : World} {v : Value} {n : Nat} {F : Nat → List Int} (h : Sls w v n F) : ∃ a cap, v = .slice a n cap := by
  rcases h with ⟨rfl, a, cap, rfl⟩ | ⟨b, off, cap, X, rfl, _⟩
  · exact ⟨_, _, rfl⟩
  · exact ⟨_, _, rfl⟩
theorem Sls.open {w : World} {v : Value} {n : Nat} {F : Nat → List Int} (h : Sls w v n F) (hn : 0 < n) : ∃ b off cap, ∃ X : Nat → Value, v = .slice (some ⟨b, off, none⟩) n cap ∧ b < w.heap.size ∧ ∀ i, i < n → w.cell? ⟨b, off + i, none⟩ = some (X i) ∧ Sl w (X i) (F i) := by
  rcases h with ⟨rfl, _⟩ | h
  · omega
  · exact h
/-- Slices of one's own as read. -/
def Rs (w : World) (v : Value) (n : Nat) (F : Nat → List Int) : Prop := ∃ B X, RS w B v n F X
theorem Rs.below {w w' : World} {v : Value} {n : Nat} {F : Nat → List Int} (h : Rs w v n F) (hb : Below w.heap.size w w') : Rs w' v n F := by
  obtain ⟨B, X, hr⟩ := h
  exact ⟨B, X, hr.below hb⟩
theorem RS.rs {w : World} {B n : Nat} {v : Value} {F : Nat → List Int} {X : Nat → Value} (h : RS w B v n F X) : Rs w v n F := ⟨B, X, h⟩
theorem RS.slsQ {w : World} {B n : Nat} {v : Value} {F : Nat → List Int} {X : Nat → Value} (h : RS w B v n F X) : Sls w v n F := by
  by_cases hn : 0 < n
  · obtain ⟨g, cap, rfl, h1, h2, h3⟩ := h.form hn
    exact .inr ⟨g, 0, cap, X, rfl, h2, fun i hi => ⟨by rw [Nat.zero_add]; exact h3 i hi, (h.inner i hi).sl⟩⟩
  · obtain rfl : n = 0 := by omega
    exact .inl ⟨rfl, h.empty⟩
set_option maxHeartbeats 1000000 in
/-- laws.tSame, of two slices that hold the same. -/
theorem tSame_same (v1 v2 : Value) (l : List Int) (w : World) (h1 : Sl w v1 l) (h2 : Sl w v2 l) (hl : l.length ≤ 1048576) :
    Calls Tryz.prog 11 #[v1, v2] w fun e w' => e = .returned (.bool true) ∧ Below w.heap.size w w' := by
  by_cases h0 : 0 < l.length
  · obtain ⟨b1, o1, c1, rfl, hb1, hc1⟩ := h1.open rfl h0
    obtain ⟨b2, o2, c2, rfl, hb2, hc2⟩ := h2.open rfl h0
    have HC1 := Lib.hid hc1
    have HC2 := Lib.hid hc2
    clear h1 h2 hc1 hc2
    generalize hn : l.length = n at *
    go_enter Tryz.func11, Tryz.ntmps11
    go_wp2_with fail
    go_loopw [13] (fun vi wr => ∃ i : Nat, i ≤ n ∧ vi = .int .i64 i ∧ Below w.heap.size w wr) (fun vi _ => n - (intOf vi).toNat)
    case atStart => exact ⟨0, Nat.zero_le _, rfl, by (repeat' (first | (with_reducible assumption) | (with_reducible exact Below.refl _ _) | (with_reducible refine below_drewN ?_ _) | (with_reducible refine Below.drew ?_) | (with_reducible refine Below.alloc ?_ ?_ _) | (with_reducible refine Below.setCell ?_ ?_ _) | (with_reducible refine Below.trans ?_ (Below.mono (by assumption) ?_)) | (with_reducible exact Nat.le_refl _) | (with_reducible assumption) | omega | (simp; omega) | (simp; done)))⟩
    case round =>
      obtain ⟨i, hi, rfl, hb⟩ := hrel
      by_cases hlt : i < n
      · have e1 := (hb.cell (p := ⟨b1, o1 + i, none⟩) hb1).trans (HC1.out i hlt)
        have e2 := (hb.cell (p := ⟨b2, o2 + i, none⟩) hb2).trans (HC2.out i hlt)
        have hz := hb.size
        have HB := Lib.hid hb; clear hb
        generalize l.getD i 0 = x at *
        have l1 : b1 < wr.heap.size := by omega
        have l2 : b2 < wr.heap.size := by omega
        go_wp2_with fail
        go_region
        go_wp2_with fail
        go_roundw
        case rel => exact ⟨i + 1, by omega, by go_num, by have hb := HB.out; (repeat' (first | (with_reducible assumption) | (with_reducible exact Below.refl _ _) | (with_reducible refine below_drewN ?_ _) | (with_reducible refine Below.drew ?_) | (with_reducible refine Below.alloc ?_ ?_ _) | (with_reducible refine Below.setCell ?_ ?_ _) | (with_reducible refine Below.trans ?_ (Below.mono (by assumption) ?_)) | (with_reducible exact Nat.le_refl _) | (with_reducible assumption) | omega | (simp; omega) | (simp; done)))⟩
        case measure => simp [intOf]; omega
      · obtain rfl : n = i := by omega
        have HB := Lib.hid hb; clear hb
        go_wp2
        go_ret
        exact ⟨rfl, HB.out⟩
  · obtain rfl : l = [] := List.length_eq_zero_iff.1 (by omega)
    obtain ⟨a1, c1, rfl⟩ := h1.empty
    obtain ⟨a2, c2, rfl⟩ := h2.empty
    clear h1 h2 h0 hl
    go_enter Tryz.func11, Tryz.ntmps11
    go_wp2_with fail
    go_loopw [13] (fun vi wr => vi = .int .i64 0 ∧ wr = w) (fun _ _ => 0)
    case atStart => exact ⟨rfl, rfl⟩
    case round =>
      obtain ⟨rfl, rfl⟩ := hrel
      go_wp2
      go_ret
      exact ⟨rfl, Below.refl _ _⟩
theorem big_yes (a0 a1 : Option Addr) (n0 c0 n1 c1 : Nat) (w : World) (h : ¬ n0 + n1 ≤ 1048576) :
    Calls Tryz.prog 7 #[.slice a0 n0 c0, .slice a1 n1 c1] w fun e w' => e = .returned (.bool true) ∧ w = w' := by
  by_cases h0 : 1048576 < n0
  · have h1 : (1048576 : Int) < (n0 : Int) := by omega
    go_enter Tryz.func7, Tryz.ntmps7
    go_wp2
    go_ret
    exact ⟨by first | rfl | simp [h1], by first | rfl | trivial⟩
  · have h1 : ¬ (1048576 : Int) < (n0 : Int) := by omega
    have h2 : (1048576 : Int) - (n0 : Int) < (n1 : Int) := by omega
    have hw : IntKind.i64.wrap (1048576 - (n0 : Int)) = 1048576 - (n0 : Int) := IntWalk.i64_in _ (by omega)
    go_enter Tryz.func7, Tryz.ntmps7
    go_wp2
    go_ret
    exact ⟨by first | rfl | simp [h2], by first | rfl | trivial⟩
set_option maxHeartbeats 1000000 in
/-- laws.tHas. -/
theorem tHas_any (v : Value) (l : List Int) (z : Int) (w : World) (hv : Sl w v l) (hl : l.length ≤ 1048576) :
    Calls Tryz.prog 16 #[v, .int .i64 z] w fun e w' => e = .returned (.bool (decide (z ∈ l))) ∧ Below w.heap.size w w' := by
  by_cases h0 : 0 < l.length
  · obtain ⟨b1, o1, c1, rfl, hb1, hc1⟩ := hv.open rfl h0
    have HC1 := Lib.hid hc1
    have HIN : Hid (∀ i, i < l.length → l.getD i 0 ∈ l) := Lib.hid fun i hi => by rw [show l.getD i 0 = l[i] by simp [List.getD, hi]]; exact List.getElem_mem hi
    have HNO : Hid ((∀ j, j < l.length → l.getD j 0 ≠ z) → decide (z ∈ l) = false) := Lib.hid fun hj => decide_eq_false fun hz => by
      obtain ⟨i, hi, e⟩ := List.getElem_of_mem hz
      exact hj i hi (by rw [← e]; simp [List.getD, hi])
    clear hv hc1
    generalize hn : l.length = n at *
    go_enter Tryz.func16, Tryz.ntmps16
    go_wp2_with fail
    go_loopw [9] (fun vi wr => ∃ i : Nat, i ≤ n ∧ vi = .int .i64 i ∧ (∀ j, j < i → l.getD j 0 ≠ z) ∧ Below w.heap.size w wr) (fun vi _ => n - (intOf vi).toNat)
    case atStart => exact ⟨0, Nat.zero_le _, rfl, fun j hj => absurd hj (by omega), Below.refl _ _⟩
    case round =>
      obtain ⟨i, hi, rfl, hj, hb⟩ := hrel
      have HJ := Lib.hid hj; clear hj
      by_cases hlt : i < n
      · have e1 := (hb.cell (p := ⟨b1, o1 + i, none⟩) hb1).trans (HC1.out i hlt)
        have HI := Lib.hid (HIN.out i hlt)
        have hz := hb.size
        have HB := Lib.hid hb; clear hb
        have HX : Hid (∀ y, l.getD i 0 = y → l.getD i 0 = y) := Lib.hid fun _ h => h
        obtain ⟨x, hx⟩ : ∃ x, l.getD i 0 = x := ⟨_, rfl⟩
        have HXX := Lib.hid hx
        rw [hx] at e1
        clear hx HX
        have l1 : b1 < wr.heap.size := by omega
        by_cases hxz : x = z
        · subst hxz
          go_wp2
          go_ret
          exact ⟨by rw [decide_eq_true (show x ∈ l by have := HI.out; rwa [HXX.out] at this)]; rfl, HB.out⟩
        · go_wp2
          go_roundw
          case rel => exact ⟨i + 1, by omega, by go_num, fun j hj => by rcases Nat.lt_succ_iff_lt_or_eq.1 hj with h | rfl; exact HJ.out j h; rw [HXX.out]; exact hxz, HB.out⟩
          case measure => simp [intOf]; omega
      · obtain rfl : n = i := by omega
        have HB := Lib.hid hb; clear hb
        go_wp2
        go_ret
        exact ⟨by rw [HNO.out HJ.out]; rfl, HB.out⟩
  · obtain rfl : l = [] := List.length_eq_zero_iff.1 (by omega)
    obtain ⟨a1, c1, rfl⟩ := hv.empty
    clear hv h0 hl
    go_enter Tryz.func16, Tryz.ntmps16
    go_wp2_with fail
    go_loopw [9] (fun vi wr => vi = .int .i64 0 ∧ wr = w) (fun _ _ => 0)
    case atStart => exact ⟨rfl, rfl⟩
    case round =>
      obtain ⟨rfl, rfl⟩ := hrel
      go_wp2
      go_ret
      exact ⟨by simp, Below.refl _ _⟩
/-- a x is complete. -/
def clp (m : Nat) (a : Nat) : Bool := !decide ((a : Int) = 0) && !decide (addF m (a : Int) 1 = 0)
set_option maxHeartbeats 2000000 in
/-- impl.field.numbersWhere at impl.CompleteLinear$1. -/
theorem numbersWhere_cl (q : Int) (w : World) (h : isSz q = true) (P : Nat → Bool) (R : Nat) (HX0 : ∀ (n : Nat) w', (n : Int) < q → Below w.heap.size w w' → Calls Tryz.prog 146 #[elE q (n : Int), .pointer (some ⟨R, 0, none⟩)] w' fun e w'' => e = .returned (.bool (P n)) ∧ Below w'.heap.size w' w'') :
    Calls Tryz.prog 145 #[fdE q, .func (.func 146) #[] #[.pointer (some ⟨R, 0, none⟩)]] w fun e w' => ∃ v, e = .returned v ∧ Row w' w.heap.size v (wh P q.toNat) ∧ Below w.heap.size w w' := by
  obtain ⟨i0, hi, iz0, iz1, iz2⟩ := info_parts Tryz.infoI
  have hq := isSz_le q h
  have HE := Lib.hid (fun w => elements_any q w h)
  have HX := Lib.hid HX0; clear HX0
  obtain ⟨m, hm⟩ := Int.eq_ofNat_of_zero_le (show 0 ≤ q by omega)
  subst hm
  rw [Int.toNat_natCast] at HE ⊢
  clear h
  go_enter Tryz.func145, Tryz.ntmps145
  go_wp2_with fail
  refine (HE.out _).mono ?_
  rintro e w3 ⟨g, cp, rfl, hg, hkb, hel, hb3⟩
  simp at hg
  have hgl := hkb.lt
  have hb : Below w.heap.size w w3 := by (repeat' (first | (with_reducible assumption) | (with_reducible exact Below.refl _ _) | (with_reducible refine below_drewN ?_ _) | (with_reducible refine Below.drew ?_) | (with_reducible refine Below.alloc ?_ ?_ _) | (with_reducible refine Below.setCell ?_ ?_ _) | (with_reducible refine Below.trans ?_ (Below.mono (by assumption) ?_)) | (with_reducible exact Nat.le_refl _) | (with_reducible assumption) | omega | (simp; omega) | (simp; done)))
  have HK3 := Lib.hid hkb
  have HL3 := Lib.hid hel
  have HB3 := Lib.hid hb
  have HCR : Hid (∀ wr, Below w3.heap.size w3 wr → Below w.heap.size w wr) := Lib.hid (fun wr hbw => hb.trans (hbw.mono hb.size))
  have hz3 := hb.size
  clear hkb hel hb hb3
  go_wp2_with fail
  go_loopw [5, 11] (fun vo vi wr => ∃ i : Nat, i ≤ m ∧ vi = .int .i64 i ∧ Row wr w3.heap.size vo (wh P i) ∧ Below w3.heap.size w3 wr) (fun _ vi _ => m - (intOf vi).toNat)
  case atStart => exact ⟨0, Nat.zero_le _, rfl, Row.nil _ _, Below.refl _ _⟩
  case round =>
    obtain ⟨i, hi', rfl, hr, hbw⟩ := hrel
    have hz := hbw.size
    have HL := Lib.hid (wh_len P i)
    by_cases hlt : i < m
    · obtain ⟨c0, c1, c2, c3, c4, c5, c6⟩ := (HL3.out.below hbw hgl) i hlt
      have hgr : g < wr.heap.size := by omega
      have hnq : (i : Int) < (m : Int) := by omega
      have HR := Lib.hid hr; clear hr
      have HBW := Lib.hid hbw; clear hbw
      have HX' := Lib.hid (fun w' hb => HX.out i w' hnq hb)
      cases hp : P i with
      | true =>
        rw [hp] at HX'
        have HS := Lib.hid (wh_yes P i hp); clear hp
        go_wp2_with fail
        refine (HX'.out _ ((HCR.out _ HBW.out).alloc (by omega) _)).mono ?_
        rintro e w5 ⟨rfl, hb5⟩
        have hz_hb5 := hb5.size; (try simp at hz_hb5)
        have HR5 := Lib.hid ((HR.out.alloc (eblk (m : Int) (i : Int))).below hb5)
        have HB5 : Hid (Below wr.heap.size wr w5) := Lib.hid (by (repeat' (first | (with_reducible assumption) | (with_reducible exact Below.refl _ _) | (with_reducible refine below_drewN ?_ _) | (with_reducible refine Below.drew ?_) | (with_reducible refine Below.alloc ?_ ?_ _) | (with_reducible refine Below.setCell ?_ ?_ _) | (with_reducible refine Below.trans ?_ (Below.mono (by assumption) ?_)) | (with_reducible exact Nat.le_refl _) | (with_reducible assumption) | omega | (simp; omega) | (simp; done))))
        clear hb5
        go_wp2_with (at_builtin; refine wpList_append_own _ rfl _ _ 24 rfl w3.heap.size 3 i0 (.int .i64 0) 1 8 Tryz.underlying24 hi iz0 iz1 iz2 rfl (by decide) _ _ _ rfl (World.ownsRow.alloc HR5.out _) ⟨w5.heap.size, 0, none⟩ 1 1 [.int .i64 i] rfl rfl ?c1 ?c2 ?c3 ?c4 ?c5 ?_)
        case c1 => exact cell_one_new _ _ _
        case c2 => intro u hu; simp at hu; subst hu; rfl
        case c3 => have := HL.out; unfold maxLen; omega
        case c4 => have := HL.out; omega
        case c5 => simp; omega
        intro v' w6 hown hgrow _
        have HR6 := Lib.hid (Row.appended hown)
        have hb : Below w3.heap.size w3 (w5.alloc (.cells #[.int .i64 i] 3)) := (HBW.out.trans (HB5.out.mono hz)).alloc (by omega) _
        have HB6 := Lib.hid (hb.grown hgrow (by simp; omega) (fun g hg => (HR5.out.lt g hg).1))
        clear hown hgrow hb
        go_wp2
        go_roundw
        case rel => exact ⟨i + 1, by omega, by go_num, by rw [HS.out]; exact HR6.out, HB6.out⟩
        case measure => simp [intOf]; omega
      | false =>
        rw [hp] at HX'
        have HS := Lib.hid (wh_no P i hp); clear hp
        go_wp2_with fail
        refine (HX'.out _ ((HCR.out _ HBW.out).alloc (by omega) _)).mono ?_
        rintro e w5 ⟨rfl, hb5⟩
        have hz_hb5 := hb5.size; (try simp at hz_hb5)
        have HR5 := Lib.hid ((HR.out.alloc (eblk (m : Int) (i : Int))).below hb5)
        have HB5 : Hid (Below wr.heap.size wr w5) := Lib.hid (by (repeat' (first | (with_reducible assumption) | (with_reducible exact Below.refl _ _) | (with_reducible refine below_drewN ?_ _) | (with_reducible refine Below.drew ?_) | (with_reducible refine Below.alloc ?_ ?_ _) | (with_reducible refine Below.setCell ?_ ?_ _) | (with_reducible refine Below.trans ?_ (Below.mono (by assumption) ?_)) | (with_reducible exact Nat.le_refl _) | (with_reducible assumption) | omega | (simp; omega) | (simp; done))))
        clear hb5
        go_wp2
        go_roundw
        case rel => exact ⟨i + 1, by omega, by go_num, by rw [HS.out]; exact HR5.out, HBW.out.trans (HB5.out.mono hz)⟩
        case measure => simp [intOf]; omega
    · obtain rfl : m = i := by omega
      have HR := Lib.hid hr; clear hr
      have HBW := Lib.hid hbw; clear hbw
      go_wp2
      go_ret
      exact ⟨_, rfl, HR.out.mono hz3, HB3.out.trans (HBW.out.mono hz3)⟩

set_option maxRecDepth 100000 in
set_option maxHeartbeats 4000000 in
/-- The closure of impl.CompleteLinear. -/
theorem clClo (m n R : Nat) (w : World) (h : isSz (m : Int) = true) (hn : n < m) (hR : w.heap[R]? = some (ffblk (m : Int))) :
    Calls Tryz.prog 146 #[elE (m : Int) (n : Int), .pointer (some ⟨R, 0, none⟩)] w fun e w' => e = .returned (.bool (clp m n)) ∧ Below w.heap.size w w' := by
  have e1 := El.one h
  have ea : El (m : Int) (n : Int) := El.nat hn
  have es := El.add h ea e1
  have HZ := Lib.hid (fun w => isZeroE (m : Int) (n : Int) w h ea.1 ea.2)
  have HON := Lib.hid (fun w => oneE (m : Int) w h)
  have HPL := Lib.hid (fun w => plusE (m : Int) (n : Int) 1 w h ea.1 ea.2 e1.1 e1.2)
  have HZ2 := Lib.hid (fun w => isZeroE (m : Int) (addF m (n : Int) 1) w h es.1 es.2)
  have hRl : R < w.heap.size := (Array.getElem?_eq_some_iff.1 hR).1
  have HC : Hid (clp m n = (!decide ((n : Int) = 0) && !decide (addF m (n : Int) 1 = 0))) := Lib.hid rfl
  rw [HC.out]
  have HKEEP : Hid (∀ w', Below (w.heap.size + 1) (w.alloc (eblk (m : Int) (n : Int))) w' → w'.cell? ⟨w.heap.size, 0, none⟩ = some (.int .i64 m) ∧ w'.cell? ⟨w.heap.size, 1, none⟩ = some (.int .i64 (pr m)) ∧ w'.cell? ⟨w.heap.size, 2, none⟩ = some (.int .i64 (pl m)) ∧ w'.cell? ⟨w.heap.size, 3, none⟩ = some (.int .i64 (dg m (n : Int) 0)) ∧ w'.cell? ⟨w.heap.size, 4, none⟩ = some (.int .i64 (dg m (n : Int) 1)) ∧ w'.cell? ⟨w.heap.size, 5, none⟩ = some (.int .i64 (dg m (n : Int) 2)) ∧ w'.cell? ⟨w.heap.size, 6, none⟩ = some (.int .i64 (dg m (n : Int) 3)) ∧ w'.cell? ⟨R, 0, none⟩ = some (.int .i64 m) ∧ w'.cell? ⟨R, 1, none⟩ = some (.int .i64 (pr m)) ∧ w'.cell? ⟨R, 2, none⟩ = some (.int .i64 (pl m))) := Lib.hid fun w' hb => by
    obtain ⟨y0, y1, y2, y3, y4, y5, y6, _⟩ := seven ((hb.block _ (by omega)).trans (heap_alloc_new w (eblk (m : Int) (n : Int))))
    obtain ⟨x0, x1, x2, _⟩ := cells3' ((hb.block R (by omega)).trans ((Below.heap_alloc _ _ _ (by omega)).trans hR))
    exact ⟨y0, y1, y2, y3, y4, y5, y6, x0, x1, x2⟩
  clear h hn ea e1 es hR HC
  generalize addF (m : Int) (n : Int) 1 = s at *
  by_cases h0 : (n : Int) = 0
  · have hd : decide ((n : Int) = 0) = true := by simpa using h0
    rw [hd] at HZ ⊢
    clear hd
    generalize (n : Int) = a at *
    clear h0
    go_enter Tryz.func146, Tryz.ntmps146
    go_wp2_with fail
    obtain ⟨y0, y1, y2, y3, y4, y5, y6, x0, x1, x2⟩ := HKEEP.out _ (Below.refl _ _)
    go_region_with (go_at_call 104; refine (HZ.out _).mono ?_; rintro e w2 ⟨rfl, hb2⟩; obtain ⟨hc2, hf2⟩ := bcell hb2; (try simp only [World.size_drew] at hc2 hf2); have hz2 := hb2.size; (try simp at hz2); have HB2 := Lib.hid hb2; clear hb2)
    all_goals
      go_wp2
      go_ret
      have hb2 := HB2.out
      exact ⟨rfl, by (repeat' (first | (with_reducible assumption) | (with_reducible exact Below.refl _ _) | (with_reducible refine below_drewN ?_ _) | (with_reducible refine Below.drew ?_) | (with_reducible refine Below.alloc ?_ ?_ _) | (with_reducible refine Below.setCell ?_ ?_ _) | (with_reducible refine Below.trans ?_ (Below.mono (by assumption) ?_)) | (with_reducible exact Nat.le_refl _) | (with_reducible assumption) | omega | (simp; omega) | (simp; done)))⟩
  · have hd : decide ((n : Int) = 0) = false := by simpa using h0
    rw [hd] at HZ ⊢
    clear hd h0
    generalize decide (s = 0) = d2 at *
    generalize (n : Int) = a at *
    go_enter Tryz.func146, Tryz.ntmps146
    go_wp2_with fail
    go_region_held3 (fun w' => w'.cell? ⟨w.heap.size, 0, none⟩ = some (.int .i64 m) ∧ w'.cell? ⟨w.heap.size, 1, none⟩ = some (.int .i64 (pr m)) ∧ w'.cell? ⟨w.heap.size, 2, none⟩ = some (.int .i64 (pl m)) ∧ w'.cell? ⟨w.heap.size, 3, none⟩ = some (.int .i64 (dg m a 0)) ∧ w'.cell? ⟨w.heap.size, 4, none⟩ = some (.int .i64 (dg m a 1)) ∧ w'.cell? ⟨w.heap.size, 5, none⟩ = some (.int .i64 (dg m a 2)) ∧ w'.cell? ⟨w.heap.size, 6, none⟩ = some (.int .i64 (dg m a 3)) ∧ w'.cell? ⟨R, 0, none⟩ = some (.int .i64 m) ∧ w'.cell? ⟨R, 1, none⟩ = some (.int .i64 (pr m)) ∧ w'.cell? ⟨R, 2, none⟩ = some (.int .i64 (pl m)))
      (exact HKEEP.out _ (by (try have hb2 := HB2.out); (try have hb3 := HB3.out); (try have hb4 := HB4.out); (try have hb5 := HB5.out); (repeat' (first | (with_reducible assumption) | (with_reducible exact Below.refl _ _) | (with_reducible refine below_drewN ?_ _) | (with_reducible refine Below.drew ?_) | (with_reducible refine Below.alloc ?_ ?_ _) | (with_reducible refine Below.setCell ?_ ?_ _) | (with_reducible refine Below.trans ?_ (Below.mono (by assumption) ?_)) | (with_reducible exact Nat.le_refl _) | (with_reducible assumption) | omega | (simp; omega) | (simp; done)))))
      (first
      | (go_at_call_of 104 (Value.int .i64 (dg m a 0)); refine (HZ.out _).mono ?_; rintro e w2 ⟨rfl, hb2⟩; obtain ⟨hc2, hf2⟩ := bcell hb2; (try simp only [World.size_drew] at hc2 hf2); have hz2 := hb2.size; (try simp at hz2); have HB2 := Lib.hid hb2; clear hb2; (try have l2 : w.heap.size < w2.heap.size := (by omega)))
      | (go_at_call 148; refine (HON.out _).mono ?_; rintro e w3 ⟨rfl, hb3⟩; obtain ⟨hc3, hf3⟩ := bcell hb3; (try simp only [World.size_drew] at hc3 hf3); have hz3 := hb3.size; (try simp at hz3); have HB3 := Lib.hid hb3; clear hb3; (try have l3 : w.heap.size < w3.heap.size := (by omega)))
      | (go_at_call 147; refine (HPL.out _).mono ?_; rintro e w4 ⟨rfl, hb4⟩; obtain ⟨hc4, hf4⟩ := bcell hb4; (try simp only [World.size_drew] at hc4 hf4); have hz4 := hb4.size; (try simp at hz4); have HB4 := Lib.hid hb4; clear hb4; (try have l4 : w.heap.size < w4.heap.size := (by omega)))
      | (go_at_call_of 104 (elE (m : Int) s); refine (HZ2.out _).mono ?_; rintro e w5 ⟨rfl, hb5⟩; obtain ⟨hc5, hf5⟩ := bcell hb5; (try simp only [World.size_drew] at hc5 hf5); have hz5 := hb5.size; (try simp at hz5); have HB5 := Lib.hid hb5; clear hb5; (try have l5 : w.heap.size < w5.heap.size := (by omega))))
    all_goals
      go_wp2
      go_ret
      have hb2 := HB2.out
      have hb3 := HB3.out
      have hb4 := HB4.out
      have hb5 := HB5.out
      exact ⟨rfl, by (repeat' (first | (with_reducible assumption) | (with_reducible exact Below.refl _ _) | (with_reducible refine below_drewN ?_ _) | (with_reducible refine Below.drew ?_) | (with_reducible refine Below.alloc ?_ ?_ _) | (with_reducible refine Below.setCell ?_ ?_ _) | (with_reducible refine Below.trans ?_ (Below.mono (by assumption) ?_)) | (with_reducible exact Nat.le_refl _) | (with_reducible assumption) | omega | (simp; omega) | (simp; done)))⟩
theorem spec_CompleteLinear_no (q : Int) (w : World) (h : isSz q = false) :
    Calls Tryz.prog 63 #[.int .i64 q] w fun e w' => e = .returned (.tuple #[.slice none 0 0, .bool false]) ∧ Below w.heap.size w w' := by
  have HS := Lib.hid (fun w => fdSize_any q w)
  rw [h] at HS
  clear h
  go_enter Tryz.func63, Tryz.ntmps63
  go_wp2_with fail
  refine (HS.out _).mono ?_
  rintro e w1 ⟨rfl, hb1⟩
  go_wp2
  go_ret2
  exact ⟨rfl, hb1⟩
theorem impl_CompleteLinear_no (q : Int) (w : World) (h : isSz q = false) :
    Calls Tryz.prog 62 #[.int .i64 q] w fun e w' => e = .returned (.tuple #[.slice none 0 0, .bool false]) ∧ Below w.heap.size w w' := by
  have HS := Lib.hid (fun w => fieldOf_no q w h)
  clear h
  go_enter Tryz.func62, Tryz.ntmps62
  go_wp2_with fail
  refine (HS.out _).mono ?_
  rintro e w1 ⟨rfl, hb1⟩
  have hz_hb1 := hb1.size; (try simp at hz_hb1)
  go_wp2_with fail
  go_ret2
  exact ⟨rfl, by (repeat' (first | (with_reducible assumption) | (with_reducible exact Below.refl _ _) | (with_reducible refine below_drewN ?_ _) | (with_reducible refine Below.drew ?_) | (with_reducible refine Below.alloc ?_ ?_ _) | (with_reducible refine Below.setCell ?_ ?_ _) | (with_reducible refine Below.trans ?_ (Below.mono (by assumption) ?_)) | (with_reducible exact Nat.le_refl _) | (with_reducible assumption) | omega | (simp; omega) | (simp; done)))⟩
set_option maxRecDepth 100000 in
set_option maxHeartbeats 4000000 in
theorem spec_CompleteLinear_yes (m : Nat) (w : World) (h : isSz (m : Int) = true) :
    Calls Tryz.prog 63 #[.int .i64 m] w fun e w' => ∃ v', e = .returned (.tuple #[v', .bool true]) ∧ Row w' w.heap.size v' (wh (clp m) m) ∧ Below w.heap.size w w' := by
  obtain ⟨i0, hi, iz0, iz1, iz2⟩ := info_parts Tryz.infoI
  have hq := isSz_le (m : Int) h
  have HS := Lib.hid (fun w => fdSize_any (m : Int) w)
  rw [h] at HS
  have HP := Lib.hid (fun (x : Nat) (hx : x < m) w => fdPlus_any (m : Int) (x : Int) 1 w h (by omega) (by omega) (El.one h).1 (El.one h).2)
  have HY : Hid (∀ k : Nat, 1 ≤ k → ¬ addF m (k : Int) 1 = 0 → wh (clp m) (k + 1) = wh (clp m) k ++ [(k : Int)]) := Lib.hid fun k hk hs => wh_yes _ k (by
    have h1 : ¬ (k : Int) = 0 := by omega
    unfold clp
    simp only [decide_eq_false h1, decide_eq_false hs]
    rfl)
  have HN : Hid (∀ k : Nat, addF m (k : Int) 1 = 0 → wh (clp m) (k + 1) = wh (clp m) k) := Lib.hid fun k hs => wh_no _ k (by
    unfold clp
    simp only [decide_eq_true hs]
    simp)
  have H1 : Hid (wh (clp m) 1 = []) := Lib.hid (by
    rw [wh_no _ 0 (by unfold clp; simp)]
    rfl)
  have HL := Lib.hid (fun k => wh_len (clp m) k)
  clear h
  generalize wh (clp m) = W at *
  go_enter Tryz.func63, Tryz.ntmps63
  go_wp2_with fail
  refine (HS.out _).mono ?_
  rintro e w1 ⟨rfl, hb1⟩
  have HB1 := Lib.hid hb1; clear hb1
  go_wp2_with fail
  go_loopw [4, 5] (fun vo vk wr => ∃ k : Nat, 1 ≤ k ∧ k ≤ m ∧ vk = .int .i64 k ∧ Row wr w.heap.size vo (W k) ∧ Below w.heap.size w wr) (fun _ vk _ => m - (intOf vk).toNat)
  case atStart => exact ⟨1, Nat.le_refl _, by omega, rfl, by rw [H1.out]; exact Row.nil _ _, HB1.out⟩
  case round =>
    obtain ⟨k, hk1, hk, rfl, hr, hbw⟩ := hrel
    have HR := Lib.hid hr; clear hr
    have HBW := Lib.hid hbw; clear hbw
    have HLk := Lib.hid (HL.out k)
    by_cases hlt : k < m
    · have HPk := Lib.hid (fun w => HP.out k hlt w)
      by_cases hs : addF (m : Int) (k : Int) 1 = 0
      · have HNk := Lib.hid (HN.out k hs)
        rw [hs] at HPk
        clear hs
        go_wp2_with fail
        refine (HPk.out _).mono ?_
        rintro e w2 ⟨rfl, hb2⟩
        have HB2 : Hid (Below w.heap.size w w2) := Lib.hid (HBW.out.trans (hb2.mono HBW.out.size))
        have HR2 := Lib.hid (HR.out.below hb2)
        clear hb2
        go_wp2
        go_roundw
        case rel => exact ⟨k + 1, by omega, by omega, by go_num, by rw [HNk.out]; exact HR2.out, HB2.out⟩
        case measure => (simp [intOf]; try omega)
      · have HYk := Lib.hid (HY.out k hk1 hs)
        generalize addF (m : Int) (k : Int) 1 = s at *
        have hb1 : (s == 0) = false := by simpa using hs
        have hb2' : (s != 0) = true := by simpa using hs
        go_wp2_with fail
        refine (HPk.out _).mono ?_
        rintro e w2 ⟨rfl, hb2⟩
        have HB2 : Hid (Below w.heap.size w w2) := Lib.hid (HBW.out.trans (hb2.mono HBW.out.size))
        have HR2 := Lib.hid (HR.out.below hb2)
        have hz2 := HB2.out.size
        clear hb2
        go_wp2_with (at_builtin; refine wpList_append_own _ rfl _ _ 24 rfl w.heap.size 3 i0 (.int .i64 0) 1 8 Tryz.underlying24 hi iz0 iz1 iz2 rfl (by decide) _ _ _ rfl (World.ownsRow.alloc HR2.out _) ⟨w2.heap.size, 0, none⟩ 1 1 [.int .i64 k] rfl rfl ?c1 ?c2 ?c3 ?c4 ?c5 ?_)
        case c1 => exact cell_one_new _ _ _
        case c2 => first | rfl | (intro u hu; simp at hu; subst hu; rfl)
        case c3 => have := HLk.out; unfold maxLen; omega
        case c4 => have := HLk.out; omega
        case c5 => first | omega | (simp; omega)
        intro v' w6 hown hgrow _
        have HR6 := Lib.hid (Row.appended hown)
        have hb6 : Below w.heap.size w (w2.alloc (.cells #[.int .i64 (k : Int)] 3)) := HB2.out.alloc (by omega) _
        have HB6 := Lib.hid (hb6.grown hgrow (by simp; omega) (fun g hg => (HR2.out.lt g hg).1))
        clear hown hgrow hb6
        go_wp2
        go_roundw
        case rel => exact ⟨k + 1, by omega, by omega, by go_num, by rw [HYk.out]; exact HR6.out, HB6.out⟩
        case measure => (simp [intOf]; try omega)
    · obtain rfl : k = m := by omega
      go_wp2
      go_ret2
      exact ⟨_, rfl, HR.out, HBW.out⟩
set_option maxRecDepth 100000 in
set_option maxHeartbeats 4000000 in
theorem impl_CompleteLinear_yes (m : Nat) (w : World) (h : isSz (m : Int) = true) :
    Calls Tryz.prog 62 #[.int .i64 m] w fun e w' => ∃ v', e = .returned (.tuple #[v', .bool true]) ∧ Row w' w.heap.size v' (wh (clp m) m) ∧ Below w.heap.size w w' := by
  have hq := isSz_le (m : Int) h
  have HS := Lib.hid (fun w => fieldOf_yes (m : Int) w h)
  have HT := Lib.hid (fun (K : Nat) w' (hK : w'.heap[K]? = some (ffblk (m : Int))) =>
    numbersWhere_cl (m : Int) w' h (clp m) K (fun i w'' hi hb => clClo m i K w'' h (by omega) ((hb.block K (Array.getElem?_eq_some_iff.1 hK).1).trans hK)))
  simp only [Int.toNat_natCast] at HT
  clear h
  generalize wh (clp m) m = r at *
  go_enter Tryz.func62, Tryz.ntmps62
  go_wp2_with fail
  refine (HS.out _).mono ?_
  rintro e w1 ⟨rfl, hb1⟩
  have hz_hb1 := hb1.size; (try simp at hz_hb1)
  have HB1 := Lib.hid hb1; clear hb1
  go_wp2_with fail
  refine (HT.out w1.heap.size _ (heap_alloc_new w1 _)).mono ?_
  rintro e w2 ⟨v2, rfl, hr2, hb2⟩
  have hz_hb2 := hb2.size; (try simp at hz_hb2)
  have HR2 := Lib.hid hr2; clear hr2
  have HB2 := Lib.hid hb2; clear hb2
  go_wp2
  go_ret2
  have hb1 := HB1.out
  have hb2 := HB2.out
  exact ⟨_, rfl, HR2.out.mono (by simp; omega), by (repeat' (first | (with_reducible assumption) | (with_reducible exact Below.refl _ _) | (with_reducible refine below_drewN ?_ _) | (with_reducible refine Below.drew ?_) | (with_reducible refine Below.alloc ?_ ?_ _) | (with_reducible refine Below.setCell ?_ ?_ _) | (with_reducible refine Below.trans ?_ (Below.mono (by assumption) ?_)) | (with_reducible exact Nat.le_refl _) | (with_reducible assumption) | omega | (simp; omega) | (simp; done)))⟩
theorem key_CompleteLinear (q : Int) : ∃ (r : List Int) (o : Bool), r.length ≤ 1048576 ∧ (∀ (w : World), Calls Tryz.prog 63 #[.int .i64 q] w fun e w' => ∃ v, e = .returned (.tuple #[v, .bool o]) ∧ Row w' w.heap.size v r ∧ Below w.heap.size w w') ∧
      (∀ (w : World), Calls Tryz.prog 62 #[.int .i64 q] w fun e w' => ∃ v, e = .returned (.tuple #[v, .bool o]) ∧ Row w' w.heap.size v r ∧ Below w.heap.size w w') := by
  cases h : isSz q with
  | false => exact ⟨[], false, by simp, fun w => (spec_CompleteLinear_no q w h).mono fun _ _ ⟨he, hb⟩ => ⟨_, he, Row.nil _ _, hb⟩, fun w => (impl_CompleteLinear_no q w h).mono fun _ _ ⟨he, hb⟩ => ⟨_, he, Row.nil _ _, hb⟩⟩
  | true =>
    have hq := isSz_le q h
    obtain ⟨m, rfl⟩ := Int.eq_ofNat_of_zero_le (show 0 ≤ q by omega)
    exact ⟨_, true, by have := wh_len (clp m) m; omega, fun w => spec_CompleteLinear_yes m w h, fun w => impl_CompleteLinear_yes m w h⟩
theorem from_same {m : Nat} {t : Nat → Int} (h : isSz (m : Int) = true) (ht : ∀ i, El m (t i)) : fl (redR m (tms m t) m) (redn m (tms m t) m) = fl (ipl m t m) (sn (ipl m t m) m) := by
  have hs : ∀ j, j < m → redR m (tms m t) m j = ipl m t m j := fun j hj => by
    rw [redR_small m _ h (tms_el h ht) m (Nat.le_refl _), if_pos hj, tms_same h ht]
  have e : redn m (tms m t) m = sn (ipl m t m) m := by
    unfold redn
    exact sn_congr hs
  rw [e]
  refine fl_congr fun i hi => hs i ?_
  have := sn_le (ipl m t m) m
  omega
theorem tabl_parts {q : Int} {l : List Int} (h : tabl q l = true) : (l.length : Int) = q ∧ l.all (inF q) = true := by
  simpa [tabl] using h
theorem impl_PolyOf_no1 (q : Int) (v : Value) (w : World) (h : isSz q = false) :
    Calls Tryz.prog 56 #[.int .i64 q, v] w fun e w' => e = .returned (.tuple #[.slice none 0 0, .bool false]) ∧ Below w.heap.size w w' := by
  have HF := Lib.hid (fun w => fieldOf_no q w h)
  clear h
  go_enter Tryz.func56, Tryz.ntmps56
  go_wp2_with fail
  refine (HF.out _).mono ?_
  rintro e w1 ⟨rfl, hb1⟩
  have hz_hb1 := hb1.size; (try simp at hz_hb1)
  have HB1 := Lib.hid hb1; clear hb1
  go_wp2_with fail
  go_ret2
  have hb1 := HB1.out
  exact ⟨rfl, by (repeat' (first | (with_reducible assumption) | (with_reducible exact Below.refl _ _) | (with_reducible refine below_drewN ?_ _) | (with_reducible refine Below.drew ?_) | (with_reducible refine Below.alloc ?_ ?_ _) | (with_reducible refine Below.setCell ?_ ?_ _) | (with_reducible refine Below.trans ?_ (Below.mono (by assumption) ?_)) | (with_reducible exact Nat.le_refl _) | (with_reducible assumption) | omega | (simp; omega) | (simp; done)))⟩
theorem impl_PolyOf_no2 (q : Int) (v : Value) (l : List Int) (w : World) (h : isSz q = true) (hv : Sl w v l) (hl : l.length ≤ 1048576) (ha : tabl q l = false) :
    Calls Tryz.prog 56 #[.int .i64 q, v] w fun e w' => e = .returned (.tuple #[.slice none 0 0, .bool false]) ∧ Below w.heap.size w w' := by
  have HF := Lib.hid (fun w => fieldOf_yes q w h)
  have HL := Lib.hid (fun w' (hb : Below w.heap.size w w') => by have := isTable_any q v l w' (hv.below hb (Nat.le_refl _)) hl; rw [ha] at this; exact this)
  clear hv hl ha h
  go_enter Tryz.func56, Tryz.ntmps56
  go_wp2_with fail
  refine (HF.out _).mono ?_
  rintro e w1 ⟨rfl, hb1⟩
  have hz_hb1 := hb1.size; (try simp at hz_hb1)
  have HB1 := Lib.hid hb1; clear hb1
  go_wp2_with fail
  refine (HL.out _ (by have hb1 := HB1.out; (repeat' (first | (with_reducible assumption) | (with_reducible exact Below.refl _ _) | (with_reducible refine below_drewN ?_ _) | (with_reducible refine Below.drew ?_) | (with_reducible refine Below.alloc ?_ ?_ _) | (with_reducible refine Below.setCell ?_ ?_ _) | (with_reducible refine Below.trans ?_ (Below.mono (by assumption) ?_)) | (with_reducible exact Nat.le_refl _) | (with_reducible assumption) | omega | (simp; omega) | (simp; done))))).mono ?_
  rintro e w2 ⟨rfl, hb2⟩
  have HB2 := Lib.hid hb2; clear hb2
  go_wp2_with fail
  go_ret2
  have hb1 := HB1.out
  have hb2 := HB2.out
  exact ⟨rfl, by (repeat' (first | (with_reducible assumption) | (with_reducible exact Below.refl _ _) | (with_reducible refine below_drewN ?_ _) | (with_reducible refine Below.drew ?_) | (with_reducible refine Below.alloc ?_ ?_ _) | (with_reducible refine Below.setCell ?_ ?_ _) | (with_reducible refine Below.trans ?_ (Below.mono (by assumption) ?_)) | (with_reducible exact Nat.le_refl _) | (with_reducible assumption) | omega | (simp; omega) | (simp; done)))⟩
set_option maxRecDepth 100000 in
set_option maxHeartbeats 4000000 in
theorem impl_PolyOf_yes (m : Nat) (v : Value) (l : List Int) (w : World) (h : isSz (m : Int) = true) (hv : Sl w v l) (ha : tabl (m : Int) l = true) :
    Calls Tryz.prog 56 #[.int .i64 m, v] w fun e w' => ∃ v', e = .returned (.tuple #[v', .bool true]) ∧ Row w' w.heap.size v' (fl (redR m (tms m (fun i => l.getD i 0)) m) (redn m (tms m (fun i => l.getD i 0)) m)) ∧ Below w.heap.size w w' := by
  have hq := isSz_le (m : Int) h
  have hlm : l.length = m := by have := (tabl_parts ha).1; omega
  have hel := all_el h (tabl_parts ha).2
  have HF := Lib.hid (fun w => fieldOf_yes (m : Int) w h)
  have HL := Lib.hid (fun w' (hb : Below w.heap.size w w') => by have := isTable_any (m : Int) v l w' (hv.below hb (Nat.le_refl _)) (by omega); rw [ha] at this; exact this)
  have HM := Lib.hid (fun w' (hb : Below w.heap.size w w') => by have := mappedIE (m : Int) v l w' h (hv.below hb (Nat.le_refl _)) (tabl_parts ha).2 (by omega); rw [hlm] at this; exact this)
  have HPT := Lib.hid (fun v w' (hs : Se w' v (m : Int) (fun i => l.getD i 0) m) => polyWithTableE m v (fun i => l.getD i 0) w' h hs hel)
  have HK : Hid (redn m (tms m (fun i => l.getD i 0)) m ≤ m) := Lib.hid (sn_le _ _)
  have HN := Lib.hid (fun v w' (hs : Se w' v (m : Int) (redR m (tms m (fun i => l.getD i 0)) m) (redn m (tms m (fun i => l.getD i 0)) m)) => numbersE (m : Int) v _ _ w' h hs (fun i _ => redR_el m _ h (tms_el h hel) _ _) (by have := HK.out; omega))
  obtain ⟨a, cap, rfl⟩ := hv.form
  clear hv ha h hel
  rw [hlm] at *
  clear hlm
  generalize redR m (tms m (fun i => l.getD i 0)) m = R at *
  generalize redn m (tms m (fun i => l.getD i 0)) m = k at *
  generalize (fun i => l.getD i 0) = c at *
  go_enter Tryz.func56, Tryz.ntmps56
  go_wp2_with fail
  refine (HF.out _).mono ?_
  rintro e w1 ⟨rfl, hb1⟩
  have hz1 := hb1.size
  have hbw1 : Below w.heap.size w (w1.alloc (ffblk (m : Int))) := by (repeat' (first | (with_reducible assumption) | (with_reducible exact Below.refl _ _) | (with_reducible refine below_drewN ?_ _) | (with_reducible refine Below.drew ?_) | (with_reducible refine Below.alloc ?_ ?_ _) | (with_reducible refine Below.setCell ?_ ?_ _) | (with_reducible refine Below.trans ?_ (Below.mono (by assumption) ?_)) | (with_reducible exact Nat.le_refl _) | (with_reducible assumption) | omega | (simp; omega) | (simp; done)))
  clear hb1
  go_wp2_with fail
  refine (HL.out _ hbw1).mono ?_
  rintro e w2 ⟨rfl, hb2⟩
  have hfb : w2.heap[w1.heap.size]? = some (ffblk (m : Int)) := (hb2.block _ (by simp)).trans (heap_alloc_new w1 _)
  have hbw2 : Below w.heap.size w w2 := hbw1.trans (hb2.mono hbw1.size)
  clear hbw1 hb2
  obtain ⟨f0, f1, f2, ff, fl0⟩ := cells3' hfb
  have HKEEP : Hid (∀ w', Below w2.heap.size w2 w' → w'.cell? ⟨w1.heap.size, 0, none⟩ = some (.int .i64 m) ∧ w'.cell? ⟨w1.heap.size, 1, none⟩ = some (.int .i64 (pr m)) ∧ w'.cell? ⟨w1.heap.size, 2, none⟩ = some (.int .i64 (pl m))) := Lib.hid fun w' hb => by
    obtain ⟨x0, x1, x2, _⟩ := cells3' ((hb.block _ fl0).trans hfb)
    exact ⟨x0, x1, x2⟩
  clear hfb
  go_wp2_with fail
  go_region_held3 (fun w' => w'.cell? ⟨w1.heap.size, 0, none⟩ = some (.int .i64 m) ∧ w'.cell? ⟨w1.heap.size, 1, none⟩ = some (.int .i64 (pr m)) ∧ w'.cell? ⟨w1.heap.size, 2, none⟩ = some (.int .i64 (pl m)))
    (exact HKEEP.out _ (by (try have hb3 := HB3.out); (try have hb4 := HB4.out); (try have hb5 := HB5.out); (repeat' (first | (with_reducible assumption) | (with_reducible exact Below.refl _ _) | (with_reducible refine below_drewN ?_ _) | (with_reducible refine Below.drew ?_) | (with_reducible refine Below.alloc ?_ ?_ _) | (with_reducible refine Below.setCell ?_ ?_ _) | (with_reducible refine Below.trans ?_ (Below.mono (by assumption) ?_)) | (with_reducible exact Nat.le_refl _) | (with_reducible assumption) | omega | (simp; omega) | (simp; done)))))
    (first
    | (go_at_call 83; refine (HM.out _ (by (repeat' (first | (with_reducible assumption) | (with_reducible exact Below.refl _ _) | (with_reducible refine below_drewN ?_ _) | (with_reducible refine Below.drew ?_) | (with_reducible refine Below.alloc ?_ ?_ _) | (with_reducible refine Below.setCell ?_ ?_ _) | (with_reducible refine Below.trans ?_ (Below.mono (by assumption) ?_)) | (with_reducible exact Nat.le_refl _) | (with_reducible assumption) | omega | (simp; omega) | (simp; done))))).mono ?_; rintro e w3 ⟨g3, rfl, hg3, hk3, he3, hb3⟩; have HSE3 : Hid (Se w3 (.slice (some ⟨g3, 0, none⟩) m m) (m : Int) c m) := Lib.hid ⟨g3, _, rfl, hk3.lt, he3⟩; clear hk3 he3; have hz3 := hb3.size; (try simp at hz3); have HB3 := Lib.hid hb3; clear hb3)
    | (go_at_call 72; refine (HPT.out _ _ HSE3.out).mono ?_; rintro e w4 ⟨g4, cp4, rfl, hg4, he4, hb4⟩; have HSE4 : Hid (Se w4 (.slice (some ⟨g4, 0, none⟩) k cp4) (m : Int) R k) := Lib.hid ⟨g4, _, rfl, hg4, he4⟩; clear he4; have hz4 := hb4.size; (try simp at hz4); have HB4 := Lib.hid hb4; clear hb4)
    | (go_at_call 73; refine (HN.out _ _ HSE4.out).mono ?_; rintro e w5 ⟨v5, rfl, hr5, hb5⟩; have HR5 := Lib.hid hr5; clear hr5; have hz5 := hb5.size; (try simp at hz5); have HB5 := Lib.hid hb5; clear hb5))
  all_goals
    go_wp2
    go_ret2
    have hb3 := HB3.out
    have hb4 := HB4.out
    have hb5 := HB5.out
    have hz0 := hbw2.size
    exact ⟨_, rfl, HR5.out.mono (by omega), by (repeat' (first | (with_reducible assumption) | (with_reducible exact Below.refl _ _) | (with_reducible refine below_drewN ?_ _) | (with_reducible refine Below.drew ?_) | (with_reducible refine Below.alloc ?_ ?_ _) | (with_reducible refine Below.setCell ?_ ?_ _) | (with_reducible refine Below.trans ?_ (Below.mono (by assumption) ?_)) | (with_reducible exact Nat.le_refl _) | (with_reducible assumption) | omega | (simp; omega) | (simp; done)))⟩

theorem inE_ofT {q x : Int} (h : isSz q = true) (hx : El q x) : inE q x = true := by
  simp [inE, h, hx.1, hx.2]
theorem cpt_cgT {m : Nat} {t u : Nat → Int} (h : ∀ a, a < m → t a = u a) : cpt m t = cpt m u := by
  unfold cpt
  rw [dis_cgZ h, dis_cgZ (t := cmt m t) (u := cmt m u) fun a ha => by show addF m (t a) _ = addF m (u a) _; rw [h a ha]]
def lexLt (t u : List Int) (m : Nat) : Bool := (List.range m).any fun d => decide (t.getD d 0 < u.getD d 0) && (List.range d).all fun j => decide (t.getD j 0 = u.getD j 0)
theorem lexLt_at {t u : List Int} {m : Nat} (h : lexLt t u m = true) : ∃ d, d < m ∧ t.getD d 0 < u.getD d 0 ∧ ∀ j, j < d → t.getD j 0 = u.getD j 0 := by
  obtain ⟨d, hd, h1⟩ := List.any_eq_true.1 h
  rw [Bool.and_eq_true] at h1
  exact ⟨d, List.mem_range.1 hd, of_decide_eq_true h1.1, fun j hj => of_decide_eq_true (List.all_eq_true.1 h1.2 j (List.mem_range.2 hj))⟩
def cmOK (m : Nat) (T : List (List Int)) : Bool := (List.range T.length).all fun r => tabl (m : Int) (T.getD r []) && (cpt m (fun i => (T.getD r []).getD i 0) && (decide ((T.getD r []).length = m) && (decide ((T.getD r []).getD 0 0 = 0) &&
  ((List.range r).all (fun j => decide (T.getD j [] ≠ T.getD r [])) && (decide (T.length ≤ r + 1) || lexLt (T.getD r []) (T.getD (r + 1) []) m)))))
def cmL2 : List (List Int) := []
set_option maxRecDepth 100000 in
theorem cml2 : cmT 2 = cmL2 := by decide +kernel
set_option maxRecDepth 100000 in
theorem cmo2 : cmOK 2 cmL2 = true := by decide +kernel
def cmL3 : List (List Int) := [[0, 1, 2]]
set_option maxRecDepth 100000 in
theorem cml3 : cmT 3 = cmL3 := by decide +kernel
set_option maxRecDepth 100000 in
theorem cmo3 : cmOK 3 cmL3 = true := by decide +kernel
def cmL4 : List (List Int) := [[0, 2, 3, 1], [0, 3, 1, 2]]
set_option maxRecDepth 100000 in
theorem cml4 : cmT 4 = cmL4 := by decide +kernel
set_option maxRecDepth 100000 in
theorem cmo4 : cmOK 4 cmL4 = true := by decide +kernel
def cmL5 : List (List Int) := [[0, 1, 2, 3, 4], [0, 2, 4, 1, 3], [0, 3, 1, 4, 2]]
set_option maxRecDepth 100000 in
theorem cml5 : cmT 5 = cmL5 := by decide +kernel
set_option maxRecDepth 100000 in
theorem cmo5 : cmOK 5 cmL5 = true := by decide +kernel
def cmL7 : List (List Int) := [[0, 1, 2, 3, 4, 5, 6], [0, 1, 3, 5, 2, 6, 4], [0, 1, 4, 2, 6, 3, 5], [0, 2, 3, 6, 4, 1, 5], [0, 2, 4, 1, 5, 3, 6], [0, 2, 4, 5, 1, 6, 3], [0, 2, 4, 6, 1, 3, 5], [0, 2, 6, 3, 1, 4, 5], [0, 3, 1, 5, 2, 4, 6], [0, 3, 4, 6, 1, 5, 2], [0, 3, 6, 2, 5, 1, 4], [0, 4, 1, 3, 5, 6, 2], [0, 4, 1, 5, 2, 6, 3], [0, 4, 1, 6, 2, 3, 5], [0, 4, 2, 5, 6, 1, 3], [0, 4, 6, 1, 2, 5, 3], [0, 5, 1, 2, 4, 6, 3], [0, 5, 2, 6, 1, 3, 4], [0, 5, 3, 1, 6, 4, 2]]
set_option maxRecDepth 100000 in
theorem cml7 : cmT 7 = cmL7 := by decide +kernel
set_option maxRecDepth 100000 in
theorem cmo7 : cmOK 7 cmL7 = true := by decide +kernel
def cmL8 : List (List Int) := [[0, 2, 4, 6, 3, 1, 7, 5], [0, 2, 4, 6, 5, 7, 1, 3], [0, 2, 5, 7, 1, 3, 4, 6], [0, 2, 5, 7, 6, 4, 3, 1], [0, 2, 6, 4, 1, 3, 7, 5], [0, 2, 6, 4, 5, 7, 3, 1], [0, 2, 7, 5, 3, 1, 4, 6], [0, 2, 7, 5, 6, 4, 1, 3], [0, 3, 4, 7, 1, 2, 5, 6], [0, 3, 4, 7, 5, 6, 1, 2], [0, 3, 5, 6, 2, 1, 7, 4], [0, 3, 5, 6, 7, 4, 2, 1], [0, 3, 6, 5, 1, 2, 7, 4], [0, 3, 6, 5, 7, 4, 1, 2], [0, 3, 7, 4, 2, 1, 5, 6], [0, 3, 7, 4, 5, 6, 2, 1], [0, 4, 1, 5, 3, 7, 2, 6], [0, 4, 1, 5, 6, 2, 7, 3], [0, 4, 3, 7, 2, 6, 1, 5], [0, 4, 3, 7, 6, 2, 5, 1], [0, 4, 5, 1, 2, 6, 7, 3], [0, 4, 5, 1, 7, 3, 2, 6], [0, 4, 6, 2, 3, 7, 5, 1], [0, 4, 6, 2, 7, 3, 1, 5], [0, 5, 1, 4, 2, 7, 3, 6], [0, 5, 1, 4, 6, 3, 7, 2], [0, 5, 3, 6, 2, 7, 1, 4], [0, 5, 3, 6, 7, 2, 4, 1], [0, 5, 4, 1, 3, 6, 7, 2], [0, 5, 4, 1, 7, 2, 3, 6], [0, 5, 7, 2, 3, 6, 4, 1], [0, 5, 7, 2, 6, 3, 1, 4], [0, 6, 1, 7, 2, 4, 3, 5], [0, 6, 1, 7, 5, 3, 4, 2], [0, 6, 3, 5, 1, 7, 2, 4], [0, 6, 3, 5, 7, 1, 4, 2], [0, 6, 4, 2, 1, 7, 5, 3], [0, 6, 4, 2, 7, 1, 3, 5], [0, 6, 7, 1, 2, 4, 5, 3], [0, 6, 7, 1, 5, 3, 2, 4], [0, 7, 1, 6, 3, 4, 2, 5], [0, 7, 1, 6, 5, 2, 4, 3], [0, 7, 3, 4, 1, 6, 2, 5], [0, 7, 3, 4, 6, 1, 5, 2], [0, 7, 5, 2, 1, 6, 4, 3], [0, 7, 5, 2, 6, 1, 3, 4], [0, 7, 6, 1, 3, 4, 5, 2], [0, 7, 6, 1, 5, 2, 3, 4]]
set_option maxRecDepth 100000 in
theorem cml8 : cmT 8 = cmL8 := by decide +kernel
set_option maxRecDepth 100000 in
theorem cmo8 : cmOK 8 cmL8 = true := by decide +kernel
theorem cm_ok {m : Nat} (h : isSz (m : Int) = true) (h8 : m ≤ 8) : cmOK m (cmT m) = true ∧ (cmT m).length ≤ 48 := by
  rcases sz_split (m : Int) h with e | e | e | e | e | e | e | e | e | e
  · obtain rfl : m = 2 := by omega
    rw [cml2]; exact ⟨cmo2, by decide⟩
  · obtain rfl : m = 3 := by omega
    rw [cml3]; exact ⟨cmo3, by decide⟩
  · obtain rfl : m = 4 := by omega
    rw [cml4]; exact ⟨cmo4, by decide⟩
  · obtain rfl : m = 5 := by omega
    rw [cml5]; exact ⟨cmo5, by decide⟩
  · obtain rfl : m = 7 := by omega
    rw [cml7]; exact ⟨cmo7, by decide⟩
  · obtain rfl : m = 8 := by omega
    rw [cml8]; exact ⟨cmo8, by decide⟩
  all_goals omega
theorem cm_row {m r : Nat} (h : isSz (m : Int) = true) (h8 : m ≤ 8) (hr : r < (cmT m).length) : tabl (m : Int) ((cmT m).getD r []) = true ∧ cpt m (fun i => ((cmT m).getD r []).getD i 0) = true ∧ ((cmT m).getD r []).length = m ∧ ((cmT m).getD r []).getD 0 0 = 0 ∧
    (∀ j, j < r → (cmT m).getD j [] ≠ (cmT m).getD r []) ∧ (r + 1 < (cmT m).length → lexLt ((cmT m).getD r []) ((cmT m).getD (r + 1) []) m = true) := by
  have h1 := List.all_eq_true.1 (cm_ok h h8).1 r (List.mem_range.2 hr)
  simp only [Bool.and_eq_true, decide_eq_true_eq, Bool.or_eq_true, List.all_eq_true, List.mem_range] at h1
  obtain ⟨a1, a2, a3, a4, a5, a6⟩ := h1
  exact ⟨a1, a2, a3, a4, a5, fun h => a6.resolve_left (by omega)⟩
/-- The polynomial of a table: its row, that it is good, its table. -/
theorem polyOf_row {m : Nat} {l : List Int} (h : isSz (m : Int) = true) (ht : tabl (m : Int) l = true) : ∃ F : List Int, F.length ≤ 16 ∧ good (m : Int) F = true ∧ (∀ i, i < m → tbl m F i = l.getD i 0) ∧
    ∀ w v, Sl w v l → Calls Tryz.prog 56 #[.int .i64 m, v] w fun e w' => ∃ v', e = .returned (.tuple #[v', .bool true]) ∧ Row w' w.heap.size v' F ∧ Below w.heap.size w w' := by
  have hq := isSz_le (m : Int) h
  have ht' := ht
  unfold tabl at ht'
  rw [Bool.and_eq_true] at ht'
  have hall : l.all (inF (m : Int)) = true := by first | exact ht'.1 | exact ht'.2
  have hel : ∀ i, El (m : Int) (l.getD i 0) := all_el h hall
  have htm : ∀ i, i < m → El (m : Int) (l.getD i 0) := fun i _ => hel i
  have P := tb_withZ (t := fun i => l.getD i 0) h hel
  refine ⟨ptl m (fun i => l.getD i 0), by have := (ptl_form h htm).1; omega, ptl_goodZ h htm, fun i hi => tabF_ptl h htm i hi, fun w v hv => ?_⟩
  have := impl_PolyOf_yes m v l w h hv ht
  rw [P.same h] at this
  exact this
/-- What the law asks of CompleteWith and CountComplete. -/
theorem ask_CWith (q rank : Int) : ∃ (T : List Int) (cnt : Int) (o o1 : Bool), T.length ≤ 1048576 ∧
    (∀ w, Calls Tryz.prog 52 #[.int .i64 q, .int .i64 rank] w fun e w' => ∃ v, e = .returned (.tuple #[v, .bool o]) ∧ Row w' w.heap.size v T ∧ Below w.heap.size w w') ∧
    (∀ w, Calls Tryz.prog 53 #[.int .i64 q, .int .i64 rank] w fun e w' => ∃ v, e = .returned (.tuple #[v, .bool o]) ∧ Row w' w.heap.size v T ∧ Below w.heap.size w w') ∧
    (∀ w, Calls Tryz.prog 54 #[.int .i64 q] w fun e w' => e = .returned (.tuple #[.int .i64 cnt, .bool o1]) ∧ Below w.heap.size w w') ∧
    (∀ w, Calls Tryz.prog 55 #[.int .i64 q] w fun e w' => e = .returned (.tuple #[.int .i64 cnt, .bool o1]) ∧ Below w.heap.size w w') ∧
    ((o = false ∧ o1 = false) ∨ (o = false ∧ o1 = true ∧ rank < 0) ∨ (o = false ∧ o1 = true ∧ 0 ≤ rank ∧ cnt ≤ rank) ∨ (o = true ∧ o1 = true ∧ 0 ≤ rank ∧ rank < cnt)) ∧
    (o = true → ∃ (m : Nat) (F T2 : List Int) (o2 : Bool), IntKind.i64.wrap (rank + 1) = rank + 1 ∧ 0 ≤ rank ∧ rank < cnt ∧ o2 = decide (rank + 1 < cnt) ∧ T.length = m ∧ 1 ≤ m ∧ m ≤ 16 ∧ T.getD 0 0 = 0 ∧ F.length ≤ 16 ∧ T2.length ≤ 16 ∧
      (∀ w v, Sl w v T → Calls Tryz.prog 56 #[.int .i64 q, v] w fun e w' => ∃ v', e = .returned (.tuple #[v', .bool true]) ∧ Row w' w.heap.size v' F ∧ Below w.heap.size w w') ∧
      (∀ w v, Sl w v F → Calls Tryz.prog 57 #[.int .i64 q, v] w fun e w' => e = .returned (.tuple #[.bool true, .bool true]) ∧ Below w.heap.size w w') ∧
      (∀ w v, Sl w v T → Calls Tryz.prog 58 #[.int .i64 q, v] w fun e w' => e = .returned (.tuple #[.int .i64 rank, .bool true]) ∧ Below w.heap.size w w') ∧
      (∀ w, Calls Tryz.prog 52 #[.int .i64 q, .int .i64 (rank + 1)] w fun e w' => ∃ v, e = .returned (.tuple #[v, .bool o2]) ∧ Row w' w.heap.size v T2 ∧ Below w.heap.size w w') ∧
      (o2 = true → T2.length = m ∧ ∃ d, d < m ∧ T.getD d 0 < T2.getD d 0 ∧ ∀ j, j < d → T.getD j 0 = T2.getD j 0)) := by
  cases hf : few q with
  | false =>
    exact ⟨[], 0, false, false, by simp, fun w => (impl_CompleteWith_no q rank w hf).mono fun _ _ ⟨he, hb⟩ => ⟨_, he, Row.nil _ _, hb⟩, fun w => (spec_CompleteWith_no q rank w hf).mono fun _ _ ⟨he, hb⟩ => ⟨_, he, Row.nil _ _, hb⟩, fun w => impl_CountComplete_no q w hf, fun w => spec_CountComplete_no q w hf, .inl ⟨rfl, rfl⟩, fun e => by cases e⟩
  | true =>
    obtain ⟨m, rfl, h, h8⟩ := few_nat hf
    have hq := isSz_le (m : Int) h
    have hc := (cm_ok h h8).2
    by_cases h0 : rank < 0
    · exact ⟨[], _, false, true, by simp, fun w => (impl_CompleteWith_no1 m rank w h h8 h0).mono fun _ _ ⟨he, hb⟩ => ⟨_, he, Row.nil _ _, hb⟩, fun w => (spec_CompleteWith_no1 m rank w h h8 h0).mono fun _ _ ⟨he, hb⟩ => ⟨_, he, Row.nil _ _, hb⟩, fun w => impl_CountComplete_yes m w h h8, fun w => spec_CountComplete_yes m w h h8, .inr (.inl ⟨rfl, rfl, h0⟩), fun e => by cases e⟩
    · by_cases h1 : ((cmT m).length : Int) ≤ rank
      · exact ⟨[], _, false, true, by simp, fun w => (impl_CompleteWith_no0 m rank w h h8 (by omega) h1).mono fun _ _ ⟨he, hb⟩ => ⟨_, he, Row.nil _ _, hb⟩, fun w => (spec_CompleteWith_no0 m rank w h h8 (by omega) h1).mono fun _ _ ⟨he, hb⟩ => ⟨_, he, Row.nil _ _, hb⟩, fun w => impl_CountComplete_yes m w h h8, fun w => spec_CountComplete_yes m w h h8, .inr (.inr (.inl ⟨rfl, rfl, by omega, h1⟩)), fun e => by cases e⟩
      · obtain ⟨r, rfl⟩ := Int.eq_ofNat_of_zero_le (show 0 ≤ rank by omega)
        have hr : r < (cmT m).length := by omega
        obtain ⟨c1, c2, c3, c4, c5, c6⟩ := cm_row h h8 hr
        obtain ⟨F, hF, hFg, hFt, hFp⟩ := polyOf_row h c1
        have hcp : cpt m (tbl m F) = true := (cpt_cgT hFt).trans c2
        have hnext : ∃ (T2 : List Int) (o2 : Bool), o2 = decide ((r : Int) + 1 < ((cmT m).length : Int)) ∧ T2.length ≤ 16 ∧ (∀ w, Calls Tryz.prog 52 #[.int .i64 (m : Int), .int .i64 ((r : Int) + 1)] w fun e w' => ∃ v, e = .returned (.tuple #[v, .bool o2]) ∧ Row w' w.heap.size v T2 ∧ Below w.heap.size w w') ∧
            (o2 = true → T2.length = m ∧ ∃ d, d < m ∧ ((cmT m).getD r []).getD d 0 < T2.getD d 0 ∧ ∀ j, j < d → ((cmT m).getD r []).getD j 0 = T2.getD j 0) := by
          by_cases hn : r + 1 < (cmT m).length
          · have d3 := (cm_row h h8 hn).2.2.1
            refine ⟨(cmT m).getD (r + 1) [], true, (decide_eq_true (by omega)).symm, by omega, fun w => ?_, fun _ => ⟨d3, lexLt_at (c6 hn)⟩⟩
            have := impl_CompleteWith_yes m (r + 1) w h h8 hn
            rw [show ((r + 1 : Nat) : Int) = (r : Int) + 1 by omega] at this
            exact this
          · exact ⟨[], false, (decide_eq_false (by omega)).symm, by simp, fun w => (impl_CompleteWith_no0 m ((r : Int) + 1) w h h8 (by omega) (by omega)).mono fun _ _ ⟨he, hb⟩ => ⟨_, he, Row.nil _ _, hb⟩, fun e => by cases e⟩
        obtain ⟨T2, o2, n1, n2, n3, n4⟩ := hnext
        refine ⟨(cmT m).getD r [], _, true, true, by omega, fun w => impl_CompleteWith_yes m r w h h8 hr, fun w => spec_CompleteWith_yes m r w h h8 hr, fun w => impl_CountComplete_yes m w h h8, fun w => spec_CountComplete_yes m w h h8, .inr (.inr (.inr ⟨rfl, rfl, by omega, by omega⟩)), fun _ =>
          ⟨m, F, T2, o2, IntWalk.i64_in _ (by omega), by omega, by omega, n1, c3, by omega, by omega, c4, hF, n2, hFp, fun w v hv => ?_, fun w v hv => impl_RankComplete_yes m v _ w h h8 hv r hr rfl c5, n3, n4⟩⟩
        have := impl_IsComplete_yes m v F w h hv hFg
        rw [hcp] at this
        exact this
set_option maxRecDepth 100000 in
theorem lin_ok {m : Nat} (h : isSz (m : Int) = true) : ((wh (clp m) m).length : Int) = m - 2 ∧ ∀ a, a < m → cpt m (fun x => mulF m (a : Int) (x : Int)) = clp m a := by
  have hm : (m : Int) ∈ sizes := by simpa [isSz] using h
  have hall : (sizes.all fun q => decide (((wh (clp q.toNat) q.toNat).length : Int) = q - 2) && (List.range q.toNat).all fun a => cpt q.toNat (fun x => mulF q (a : Int) (x : Int)) == clp q.toNat a) = true := by decide +kernel
  have h1 := List.all_eq_true.1 hall (m : Int) hm
  simp only [Bool.and_eq_true, decide_eq_true_eq, List.all_eq_true, List.mem_range, beq_iff_eq, Int.toNat_natCast] at h1
  exact h1
theorem mem_whT {P : Nat → Bool} {n a : Nat} (ha : a < n) : decide ((a : Int) ∈ wh P n) = P a := by
  cases hs : P a with
  | true => exact decide_eq_true (List.mem_map.2 ⟨a, List.mem_filter.2 ⟨List.mem_range.2 ha, hs⟩, rfl⟩)
  | false =>
    refine decide_eq_false fun hm => ?_
    obtain ⟨b, hb, e⟩ := List.mem_map.1 hm
    obtain rfl : b = a := by omega
    have := (List.mem_filter.1 hb).2
    rw [hs] at this
    exact Bool.false_ne_true this
/-- What the law asks of CompleteLinear. -/
theorem ask_Lin (s : Int) : ∃ (L : List Int) (o : Bool), L.length ≤ 1048576 ∧
    (∀ w, Calls Tryz.prog 62 #[.int .i64 s] w fun e w' => ∃ v, e = .returned (.tuple #[v, .bool o]) ∧ Row w' w.heap.size v L ∧ Below w.heap.size w w') ∧
    (∀ w, Calls Tryz.prog 63 #[.int .i64 s] w fun e w' => ∃ v, e = .returned (.tuple #[v, .bool o]) ∧ Row w' w.heap.size v L ∧ Below w.heap.size w w') ∧
    (o = true → ∃ (m : Nat) (P : Nat → Bool), s = (m : Int) ∧ 2 ≤ m ∧ m ≤ 16 ∧ (L.length : Int) = (m : Int) - 2 ∧ ∀ a, a < m → decide ((a : Int) ∈ L) = P a ∧ ∃ F : List Int,
      (∀ w v, Sl w v [0, (a : Int)] → Calls Tryz.prog 64 #[.int .i64 s, v] w fun e w' => ∃ v', e = .returned (.tuple #[v', .bool true]) ∧ Row w' w.heap.size v' F ∧ Below w.heap.size w w') ∧
      (∀ w v, Sl w v F → Calls Tryz.prog 57 #[.int .i64 s, v] w fun e w' => e = .returned (.tuple #[.bool (P a), .bool true]) ∧ Below w.heap.size w w')) := by
  cases h : isSz s with
  | false => exact ⟨[], false, by simp, fun w => (impl_CompleteLinear_no s w h).mono fun _ _ ⟨he, hb⟩ => ⟨_, he, Row.nil _ _, hb⟩, fun w => (spec_CompleteLinear_no s w h).mono fun _ _ ⟨he, hb⟩ => ⟨_, he, Row.nil _ _, hb⟩, fun e => by cases e⟩
  | true =>
    have hq := isSz_le s h
    obtain ⟨m, rfl⟩ := Int.eq_ofNat_of_zero_le (show 0 ≤ s by omega)
    obtain ⟨l1, l2⟩ := lin_ok h
    have hl := wh_len (clp m) m
    refine ⟨wh (clp m) m, true, by omega, fun w => impl_CompleteLinear_yes m w h, fun w => spec_CompleteLinear_yes m w h, fun _ => ⟨m, clp m, rfl, by omega, by omega, l1, fun a ha => ⟨mem_whT ha, ptl m (fun x => mulF m (a : Int) (x : Int)), fun w v hv => ?_, fun w v hv => ?_⟩⟩⟩
    · have ea : El (m : Int) (a : Int) := El.nat ha
      have hall : ([0, (a : Int)] : List Int).all (inF (m : Int)) = true := by
        simp [inF]; omega
      have hc : ∀ i, El (m : Int) (([0, (a : Int)] : List Int).getD i 0) := all_el h hall
      have := impl_ReducePoly_yes m v [0, (a : Int)] w h hv (by simp) hall
      have P := (tb_red h hc 2).like (u := fun x => mulF m (a : Int) (x : Int)) fun x hx => by
        have ex : El (m : Int) (x : Int) := El.nat hx
        show addF m (addF m 0 (mulF m 0 1)) (mulF m (a : Int) (mulF m 1 (x : Int))) = _
        rw [(mul_zero' h (El.one h)).1, (mul_one' h ex).1, (add_zero' h (El.zero h)).1, add_comm' h (El.zero h) (ea.mul h ex), (add_zero' h (ea.mul h ex)).1]
      rw [show ([0, (a : Int)] : List Int).length = 2 from rfl, P.same h] at this
      exact this
    · have ht : ∀ i, i < m → El (m : Int) (mulF m (a : Int) (i : Int)) := fun i hi => (El.nat ha).mul h (El.nat hi)
      have := impl_IsComplete_yes m v _ w h hv (ptl_goodZ h ht)
      rw [cpt_cgT (u := fun x => mulF m (a : Int) (x : Int)) (fun x hx => tabF_ptl h ht x hx), l2 a ha] at this
      exact this
end Go.Proofs.YtapglncgicfjnabGreat
/-! ZS -/
namespace Go.Proofs.YtapglncgicfjnabGreat
open Go.RowKit
theorem sn_lastZ {f : Nat → Int} : ∀ n, 0 < sn f n → f (sn f n - 1) ≠ 0
  | 0, h => absurd h (Nat.lt_irrefl 0)
  | n + 1, h => by
    unfold sn at h ⊢
    by_cases e : f n = 0
    · rw [if_pos e] at h ⊢
      exact sn_lastZ n h
    · rw [if_neg e]
      exact e
theorem good_short {m : Nat} {l : List Int} (hl : l.length ≤ m) (he : ∀ x ∈ l, El (m : Int) x) : good (m : Int) (fl (fun i => l.getD i 0) (sn (fun i => l.getD i 0) l.length)) = true := by
  have hs := sn_le (fun i => l.getD i 0) l.length
  have hel : ∀ i, i < l.length → El (m : Int) (l.getD i 0) := fun i hi => by
    rw [show l.getD i 0 = l[i] by simp [List.getD, hi]]
    exact he _ (List.getElem_mem _)
  have g2 : (fl (fun i => l.getD i 0) (sn (fun i => l.getD i 0) l.length)).all (inF (m : Int)) = true := List.all_eq_true.2 fun x hx => by
    obtain ⟨i, hi, rfl⟩ := List.mem_map.1 (show x ∈ (List.range _).map _ from hx)
    have := hel i (by have := List.mem_range.1 hi; omega)
    simpa [inF, El] using this
  have g1 : ((fl (fun i => l.getD i 0) (sn (fun i => l.getD i 0) l.length)).length : Int) ≤ m := by rw [fl_len]; omega
  by_cases h0 : 0 < (fl (fun i => l.getD i 0) (sn (fun i => l.getD i 0) l.length)).length
  · rw [good_last g1 g2 h0]
    rw [fl_len] at h0 ⊢
    refine decide_eq_true ?_
    rw [fl_get _ _ _ (by omega)]
    have h1 := sn_lastZ l.length h0
    have h2 := (hel (sn (fun i => l.getD i 0) l.length - 1) (by omega)).1
    omega
  · have e : fl (fun i => l.getD i 0) (sn (fun i => l.getD i 0) l.length) = [] := List.length_eq_zero_iff.1 (by omega)
    rw [e]
    exact good_nil _ (by omega)
set_option maxRecDepth 100000 in
set_option maxHeartbeats 8000000 in
/-- spec.l1Cur.surePoly. -/
theorem surePolyG_any (cb : Nat) (a : Option Addr) (n c k m : Nat) (w : World) (h : Cu w cb a n c k) (hk : k ≤ 600) (hs : isSz (m : Int) = true) :
    Calls Tryz.prog 184 #[.pointer (some ⟨cb, 0, none⟩), .int .i64 m] w fun e w' => ∃ v l, e = .returned v ∧ l.length ≤ 16 ∧ good (m : Int) l = true ∧ Row w' w.heap.size v l ∧ Cu w' cb a n c (k + 40) ∧ Kp cb w w' := by
  have hq := isSz_le (m : Int) hs
  obtain ⟨i0, hi, hz0, hz1, hz2⟩ := info_parts Tryz.infoI
  have HCL := Lib.hid h.lt
  have HCU := Lib.hid h
  have HA := Lib.hid (fun (l : List Int) (hl : l.length = 7) hb o ho => among_newB cb a n c k 7 l w h (by omega) hl (by omega) (by omega) o ho hb)
  have HP := Lib.hid (fun k w' (hc : Cu w' cb a n c k) (hk : k ≤ 800) => pick_any cb a n c k m w' hc (by omega))
  have HSH := Lib.hid (fun v' (l : List Int) B w' (hr : Row w' B v' l) (hl : l.length ≤ 16) => plShort_row v' l.length B (fun i => l.getD i 0) w' ((fl_of l) ▸ hr) (by omega))
  have hq3 : (m : Int) / 2 ≤ 16 := by omega
  clear hs h
  go_enter Tryz.func184, Tryz.ntmps184
  go_wp2_with fail
  refine (HA.out [0, 1, 2, 3, 4, (m : Int) / 2, (m : Int)] rfl (by intro x hx; simp at hx; omega) _ rfl).mono ?_
  rintro e w1 ⟨r, rfl, hr16, hc1, hk1⟩
  have HC1 := Lib.hid hc1; clear hc1
  have HK1 := Lib.hid hk1; clear hk1
  go_wp2_with fail
  go_loopw [5, 6] (fun vf vk wr => ∃ l : List Int, l.length ≤ m ∧ (∀ x ∈ l, El (m : Int) x) ∧ Row wr w.heap.size vf l ∧ vk = .int .i64 (r - (l.length : Int)) ∧ Cu wr cb a n c (k + 2 + 2 * l.length) ∧ Kp cb w wr) (fun _ vk _ => (intOf vk).toNat)
  case atStart => exact ⟨[], Nat.zero_le _, by simp, Row.nil _ _, by simp, HC1.out, HK1.out⟩
  case round =>
    obtain ⟨l, hl, hel, hrow, rfl, hcu, hkp⟩ := hrel
    have HEL := Lib.hid hel; clear hel
    obtain ⟨af, cf, rfl⟩ := hrow.sl.form
    have HR := Lib.hid hrow; clear hrow
    have HCu := Lib.hid hcu; clear hcu
    have HKp := Lib.hid hkp; clear hkp
    have hszr : w.heap.size ≤ wr.heap.size := HKp.out.1.size
    by_cases h1 : 0 < r - (l.length : Int)
    · have hwr : IntKind.i64.wrap (r - (l.length : Int) - 1) = r - (l.length : Int) - 1 := IntWalk.i64_in _ (by omega)
      by_cases h2 : l.length < m
      · go_wp2_with fail
        refine (HP.out _ _ HCu.out (by omega)).mono ?_
        rintro e w2 ⟨x, rfl, _, hx2, hc2, hk2⟩
        have HX2 := Lib.hid (hx2 (by omega)); clear hx2
        have HR2 := Lib.hid (HR.out.kp hk2 HCL.out)
        have HK2 := Lib.hid (HKp.out.trans hk2)
        have HC2 := Lib.hid hc2
        clear hc2 hk2
        have hsz2 : w.heap.size ≤ w2.heap.size := HK2.out.1.size
        have hlm : l.length + 1 ≤ maxLen := by unfold maxLen; omega
        go_wp2_with (at_builtin; refine wpList_append_own _ rfl _ _ 24 rfl w.heap.size 3 i0 (.int .i64 0) 1 8 Tryz.underlying24 hi hz0 hz1 hz2 rfl (by decide) _ _ _ rfl (World.ownsRow.alloc HR2.out _) ⟨w2.heap.size, 0, none⟩ 1 1 [.int .i64 x] rfl rfl ?c1 ?c2 ?c3 ?c4 ?c5 ?_)
        case c1 => exact cell_one_new _ _ _
        case c2 => intro u hu; simp at hu; subst hu; rfl
        case c3 => exact hlm
        case c4 => omega
        case c5 => simp; omega
        intro v' w3 hown hgrow _
        have HR3 := Lib.hid (Row.appended hown)
        have HB3 : Hid (Below w.heap.size w2 w3) := Lib.hid (((Below.refl _ _).alloc hsz2 (.cells #[.int .i64 x] 3)).grown hgrow (by simp; omega) (fun g hg => (HR2.out.lt g hg).1))
        have HC3 := Lib.hid (Cu.own HCU.out HC2.out HB3.out)
        have HK3 := Lib.hid (HK2.out.own (Nat.le_of_lt HCL.out) rfl HB3.out)
        clear hown hgrow
        go_wp2
        go_roundw
        case rel => exact ⟨l ++ [x], by rw [List.length_append]; exact h2, fun y hy => by rcases List.mem_append.1 hy with h | h; exact HEL.out y h; rw [List.mem_singleton.1 h]; exact HX2.out, HR3.out, by rw [List.length_append]; simp; omega, by rw [List.length_append]; exact HC3.out, HK3.out⟩
        case measure => simp [intOf]; omega
      · go_wp2_with fail
        refine (HSH.out _ l w.heap.size _ HR.out (by omega)).mono ?_
        rintro e w4 ⟨v4, rfl, hr4, hb4⟩
        have HR4 := Lib.hid hr4; clear hr4
        have HB4 := Lib.hid hb4; clear hb4
        go_wp2
        go_ret
        exact ⟨_, _, rfl, by have := sn_le (fun i => l.getD i 0) l.length; rw [fl_len]; omega, good_short hl HEL.out, HR4.out.mono hszr, (HCu.out.kp HB4.out).mono (by omega), HKp.out.trans (Kp.below HB4.out (by have := HCL.out; omega))⟩
    · go_wp2_with fail
      refine (HSH.out _ l w.heap.size _ HR.out (by omega)).mono ?_
      rintro e w4 ⟨v4, rfl, hr4, hb4⟩
      have HR4 := Lib.hid hr4; clear hr4
      have HB4 := Lib.hid hb4; clear hb4
      go_wp2
      go_ret
      exact ⟨_, _, rfl, by have := sn_le (fun i => l.getD i 0) l.length; rw [fl_len]; omega, good_short hl HEL.out, HR4.out.mono hszr, (HCu.out.kp HB4.out).mono (by omega), HKp.out.trans (Kp.below HB4.out (by have := HCL.out; omega))⟩
set_option maxRecDepth 100000 in
set_option maxHeartbeats 8000000 in
/-- spec.l1Cur.table. -/
theorem table_any (cb : Nat) (a : Option Addr) (n c k : Nat) (q : Int) (w : World) (h : Cu w cb a n c k) (hk : k ≤ 500) :
    Calls Tryz.prog 141 #[.pointer (some ⟨cb, 0, none⟩), .int .i64 q] w fun e w' => ∃ v l, e = .returned v ∧ l.length ≤ 48 ∧ Row w' w.heap.size v l ∧ Cu w' cb a n c (k + 60) ∧ Kp cb w w' := by
  obtain ⟨i0, hi, hz0, hz1, hz2⟩ := info_parts Tryz.infoI
  have HCL := Lib.hid h.lt
  have HCU := Lib.hid h
  have HSZ := Lib.hid (fun w => fdSize_any q w)
  cases hs : isSz q with
  | false =>
    rw [hs] at HSZ
    clear hs h
    go_enter Tryz.func141, Tryz.ntmps141
    go_wp2_with fail
    refine (HSZ.out _).mono ?_
    rintro e w1 ⟨rfl, hb1⟩
    have HB1 := Lib.hid hb1; clear hb1
    have hsz1 := HB1.out.size
    go_wp2
    go_ret
    have hb2 : Below w.heap.size w (w1.alloc (.cells #[.int .i64 0, .int .i64 1] 3)) := HB1.out.alloc hsz1 _
    refine ⟨_, [0, 1], rfl, by simp, Row.heap (by rw [heap_alloc_new]; rfl) hsz1 rfl (by unfold maxLen; omega), (HCU.out.kp hb2).mono (by omega), Kp.below hb2 (Nat.le_of_lt HCL.out)⟩
  | true =>
    rw [hs] at HSZ
    have hq := isSz_le q hs
    obtain ⟨m, rfl⟩ := Int.eq_ofNat_of_zero_le (show 0 ≤ q by omega)
    have HSP := Lib.hid (fun w' (hc : Cu w' cb a n c k) => surePolyG_any cb a n c k m w' hc (by omega) hs)
    have HP := Lib.hid (fun k z w' (hc : Cu w' cb a n c k) (hk : k ≤ 800) => pick_any cb a n c k z w' hc (by omega))
    have HA := Lib.hid (fun k (l : List Int) w' (hc : Cu w' cb a n c k) (hk : k ≤ 800) (hl : l.length = 4) o ho => among_new cb a n c k 4 l w' hc (by omega) hl (by omega) (by omega) o ho)
    have HPV := Lib.hid (fun v l w (hv : Sl w v l) (hg : good (m : Int) l = true) => plValues_any (m : Int) v l w hs hv hg)
    clear hs h
    go_enter Tryz.func141, Tryz.ntmps141
    go_wp2_with fail
    refine (HSZ.out _).mono ?_
    rintro e w1 ⟨rfl, hb1⟩
    have HC1 := Lib.hid (HCU.out.kp hb1)
    have HK1 := Lib.hid (Kp.below hb1 (Nat.le_of_lt HCL.out))
    have hsz1 := hb1.size
    clear hb1
    go_wp2_with fail
    refine (HSP.out _ HC1.out).mono ?_
    rintro e w2 ⟨v2, l2, rfl, hl2, hg2, hr2, hc2, hk2⟩
    have HR2 := Lib.hid (hr2.mono hsz1)
    have HG2 := Lib.hid hg2
    have HC2 := Lib.hid hc2
    have HK2 := Lib.hid (HK1.out.trans hk2)
    have hsz2 : w.heap.size ≤ w2.heap.size := HK2.out.1.size
    clear hr2 hc2 hk2 hg2 HC1 HK1
    go_wp2_with fail
    refine (HPV.out v2 l2 _ HR2.out.sl HG2.out).mono ?_
    rintro e w3 ⟨v3, rfl, hr3, hb3⟩
    rw [Int.toNat_natCast] at hr3
    obtain ⟨l3, hl3, hr3⟩ : ∃ l3 : List Int, l3.length = m ∧ Row w3 w2.heap.size v3 l3 := ⟨_, fl_len _ _, hr3⟩
    obtain ⟨g, cap, rfl, hgB, hgl⟩ := hr3.form (by omega)
    have HR3 := Lib.hid (hr3.mono hsz2); clear hr3
    have HC3 := Lib.hid (HC2.out.kp hb3)
    have HK3 := Lib.hid (HK2.out.trans (Kp.below hb3 (Nat.le_of_lt HC2.out.lt)))
    clear hb3 HR2 HG2 HPV HSP
    rw [hl3]
    go_wp2_with fail
    refine (HP.out _ 16 _ HC3.out (by omega)).mono ?_
    rintro e w4 ⟨x, rfl, _, _, hc4, hk4⟩
    have HR4 := Lib.hid (HR3.out.kp hk4 HCL.out)
    have HC4 := Lib.hid hc4
    have HK4 := Lib.hid (HK3.out.trans hk4)
    have hgl4 : g < w4.heap.size := by have := hk4.1.size; omega
    have hsz4 : w.heap.size ≤ w4.heap.size := HK4.out.1.size
    clear hc4 hk4 HR3 HC3 HK3
    by_cases hx0 : x = 0
    · subst hx0
      go_wp2_with fail
      refine (HP.out _ (m : Int) _ HC4.out (by omega)).mono ?_
      rintro e w5 ⟨z, rfl, _, hz, hc5, hk5⟩
      obtain ⟨z0, z1⟩ := hz (by omega)
      obtain ⟨z, rfl⟩ := Int.eq_ofNat_of_zero_le z0
      have hzm : z < m := by omega
      have HR5 := Lib.hid (HR4.out.kp hk5 HCL.out)
      have HC5 := Lib.hid hc5
      have HK5 := Lib.hid (HK4.out.trans hk5)
      have hgl5 : g < w5.heap.size := by have := hk5.1.size; omega
      clear hc5 hk5 hz
      go_wp2_with fail
      refine (HA.out _ [-1, (m : Int), 0, 4611686018427387904] _ HC5.out (by omega) rfl _ rfl).mono ?_
      rintro e w6 ⟨y, rfl, hc6, hk6⟩
      have HR6 := Lib.hid (HR5.out.kp hk6 HCL.out)
      have HC6 := Lib.hid hc6
      have HK6 := Lib.hid (HK5.out.trans hk6)
      have hgl6 : g < w6.heap.size := by have := hk6.1.size; omega
      have hsz6 : w.heap.size ≤ w6.heap.size := HK6.out.1.size
      have c6 := HR6.out.cell z (by omega)
      have f6 := HR6.out.frozen rfl z
      clear hc6 hk6
      go_wp2
      go_ret
      have hb7 : Below w.heap.size w6 (w6.setCell ⟨g, z, none⟩ (.int .i64 y)) := Below.setCell (Below.refl _ _) (by simp; omega) _
      have hr7 := HR6.out.store rfl z y
      rw [hl3] at hr7
      exact ⟨_, l3.set z y, rfl, by rw [List.length_set]; omega, hr7, (Cu.own HCU.out HC6.out hb7).mono (by omega), HK6.out.own (Nat.le_of_lt HCL.out) rfl hb7⟩
    · by_cases hx1 : x = 1
      · subst hx1
        have hlm : l3.length + 1 ≤ maxLen := by unfold maxLen; omega
        have HR4' : Hid (Row w4 w.heap.size (.slice (some ⟨g, 0, none⟩) m cap) l3) := Lib.hid (by have := HR4.out; rwa [hl3] at this)
        have hsz4' : w.heap.size ≤ w4.heap.size := hsz4
        go_wp2_with (at_builtin; refine wpList_append_own _ rfl _ _ 24 rfl w.heap.size 3 i0 (.int .i64 0) 1 8 Tryz.underlying24 hi hz0 hz1 hz2 rfl (by decide) _ _ _ rfl (World.ownsRow.alloc HR4'.out _) ⟨w4.heap.size, 0, none⟩ 1 1 [.int .i64 0] rfl rfl ?c1 ?c2 ?c3 ?c4 ?c5 ?_)
        case c1 => exact cell_one_new _ _ _
        case c2 => intro u hu; simp at hu; subst hu; rfl
        case c3 => exact hlm
        case c4 => omega
        case c5 => simp; omega
        intro v' w5 hown hgrow _
        have HR5 := Lib.hid (Row.appended (l := l3) (by rw [hl3]; exact hown))
        have HB5 : Hid (Below w.heap.size w4 w5) := Lib.hid (((Below.refl _ _).alloc hsz4 (.cells #[.int .i64 0] 3)).grown hgrow (by simp; omega) (fun g hg => (HR4'.out.lt g hg).1))
        have HC5 := Lib.hid (Cu.own HCU.out HC4.out HB5.out)
        have HK5 := Lib.hid (HK4.out.own (Nat.le_of_lt HCL.out) rfl HB5.out)
        clear hown hgrow
        go_wp2
        go_ret
        exact ⟨_, l3 ++ [0], rfl, by rw [List.length_append]; simp; omega, HR5.out, HC5.out.mono (by omega), HK5.out⟩
      · go_wp2
        go_ret
        exact ⟨_, l3, rfl, by omega, by have := HR4.out; rwa [hl3] at this, HC4.out.mono (by omega), HK4.out⟩
end Go.Proofs.YtapglncgicfjnabGreat
/-! ZU -/
namespace Go.Proofs.YtapglncgicfjnabGreat
open Go.RowKit
set_option maxHeartbeats 2000000 in
/-- spec.DrawCompleteLinear. -/
theorem drawCompleteLinear_any (a : Option Addr) (n c : Nat) (w : World) (h : Bys w a n) :
    Calls Tryz.prog 61 #[.slice a n c] w fun e w' => ∃ q : Int, e = .returned (.int .i64 q) ∧ Below w.heap.size w w' := by
  have HS := Lib.hid (drawPrime_any a n c w h)
  clear h
  go_enter Tryz.func61, Tryz.ntmps61
  go_wp2_with fail
  refine HS.out.mono ?_
  rintro e w1 ⟨q, rfl, hb1⟩
  go_wp2
  go_ret
  exact ⟨q, rfl, hb1⟩
set_option maxHeartbeats 4000000 in
/-- spec.DrawCompleteWith. -/
theorem drawCompleteWith_any (a : Option Addr) (n c : Nat) (w : World) (h : Bys w a n) :
    Calls Tryz.prog 51 #[.slice a n c] w fun e w' => ∃ q x : Int, e = .returned (.tuple #[.int .i64 q, .int .i64 x]) ∧ Below w.heap.size w w' := by
  have HS := Lib.hid (size_any w.heap.size a n c 0 _ (h.cur c) (by omega))
  have HO := Lib.hid (fun k m w' (hc : Cu w' w.heap.size a n c k) (hk : k ≤ 800) => one_any w.heap.size a n c k m w' hc (by omega))
  have HP := Lib.hid (fun k m w' (hc : Cu w' w.heap.size a n c k) (hk : k ≤ 800) => pick_any w.heap.size a n c k m w' hc (by omega))
  have HA := Lib.hid (fun k l w' (hc : Cu w' w.heap.size a n c k) (hk : k ≤ 800) (hl : l.length = 4) o => among_new w.heap.size a n c k 4 l w' hc (by omega) hl (by omega) (by omega) o)
  clear h
  go_enter Tryz.func51, Tryz.ntmps51
  go_wp2_with fail
  refine (HS.out).mono ?_
  rintro e w1 ⟨q, rfl, hc1, hk1⟩
  have HC1 := Lib.hid hc1
  have HK1 := Lib.hid hk1
  clear hk1 hc1 HS
  go_wp2_with fail
  refine (HO.out _ _ _ HC1.out (by omega)).mono ?_
  rintro e w2 ⟨b, rfl, hc2, hk2⟩
  have HC2 := Lib.hid hc2
  have HK2 := Lib.hid (HK1.out.trans hk2)
  clear hk2 hc2
  cases b with
  | false =>
    go_wp2_with fail
    refine (HP.out _ _ _ HC2.out (by omega)).mono ?_
    rintro e w3 ⟨x, rfl, _, _, hc3, hk3⟩
    have HK3 := Lib.hid (HK2.out.trans hk3)
    clear hk3 hc3
    go_wp2
    go_ret2
    exact ⟨_, _, rfl, HK3.out.start⟩
  | true =>
    go_wp2_with fail
    refine (HA.out _ [3, 4, 5, 7] _ HC2.out (by omega) rfl _ rfl).mono ?_
    rintro e w5 ⟨q5, rfl, hc5, hk5⟩
    have HC5 := Lib.hid hc5
    have HK5 := Lib.hid (HK2.out.trans hk5)
    clear hk5 hc5
    go_wp2_with fail
    refine (HP.out _ _ _ HC5.out (by omega)).mono ?_
    rintro e w3 ⟨x, rfl, _, _, hc3, hk3⟩
    have HK3 := Lib.hid (HK5.out.trans hk3)
    clear hk3 hc3
    go_wp2
    go_ret2
    exact ⟨_, _, rfl, HK3.out.start⟩
set_option maxRecDepth 100000 in
theorem cm_some {m : Nat} (h : isSz (m : Int) = true) (h3 : 3 ≤ m) (h7 : m ≤ 7) : 0 < (cmT m).length := by
  rcases sz_split (m : Int) h with e | e | e | e | e | e | e | e | e | e
  · omega
  · obtain rfl : m = 3 := by omega
    rw [cml3]; decide
  · obtain rfl : m = 4 := by omega
    rw [cml4]; decide
  · obtain rfl : m = 5 := by omega
    rw [cml5]; decide
  · obtain rfl : m = 7 := by omega
    rw [cml7]; decide
  all_goals omega
set_option maxRecDepth 100000 in
set_option maxHeartbeats 8000000 in
/-- spec.DrawRankComplete. -/
theorem drawRankComplete_any (a : Option Addr) (n c : Nat) (w : World) (h : Bys w a n) :
    Calls Tryz.prog 59 #[.slice a n c] w fun e w' => ∃ (q : Int) (v : Value) (l : List Int), e = .returned (.tuple #[.int .i64 q, v]) ∧ l.length ≤ 48 ∧ Row w' w.heap.size v l ∧ Below w.heap.size w w' := by
  have HCL : Hid (w.heap.size < (w.alloc (.cells #[.slice a n c, .int .i64 0, .int .u64 0] 57)).heap.size) := Lib.hid (h.cur c).lt
  have HC0 := Lib.hid (h.cur c)
  have HK0 := Lib.hid (Kp.refl w.heap.size (w.alloc (.cells #[.slice a n c, .int .i64 0, .int .u64 0] 57)))
  have HO := Lib.hid (fun k m w' (hc : Cu w' w.heap.size a n c k) (hk : k ≤ 800) => one_any w.heap.size a n c k m w' hc (by omega))
  have HP := Lib.hid (fun k m w' (hc : Cu w' w.heap.size a n c k) (hk : k ≤ 800) => pick_any w.heap.size a n c k m w' hc (by omega))
  have HA := Lib.hid (fun k l w' (hc : Cu w' w.heap.size a n c k) (hk : k ≤ 800) (hl : l.length = 7) o => among_new w.heap.size a n c k 7 l w' hc (by omega) hl (by omega) (by omega) o)
  have hz0 : (w.alloc (.cells #[.slice a n c, .int .i64 0, .int .u64 0] 57)).heap.size = w.heap.size + 1 := by simp
  have HA0 : Hid (∀ o, o = Obj.cells (([2, 3, 4, 5, 7, 9, 6] : List Int).map (Value.int .i64)).toArray 3 (0, 0) → Calls Tryz.prog 132 #[.pointer (some ⟨w.heap.size, 0, none⟩), .slice (some ⟨w.heap.size + 1, 0, none⟩) 7 7] ((w.alloc (.cells #[.slice a n c, .int .i64 0, .int .u64 0] 57)).alloc o) fun e w' => ∃ r : Int, e = .returned (.int .i64 r) ∧ Cu w' w.heap.size a n c 2 ∧ Kp w.heap.size (w.alloc (.cells #[.slice a n c, .int .i64 0, .int .u64 0] 57)) w') := Lib.hid fun o ho => by
    have := HA.out 0 [2, 3, 4, 5, 7, 9, 6] _ HC0.out (by omega) rfl o ho
    rwa [hz0] at this
  clear hz0
  have HT := Lib.hid (fun k q w' (hc : Cu w' w.heap.size a n c k) (hk : k ≤ 400) => table_any w.heap.size a n c k q w' hc (by omega))
  have HSZ := Lib.hid (fun q w => fdSize_any q w)
  clear h
  go_enter Tryz.func59, Tryz.ntmps59
  go_wp2_with fail
  refine (HA0.out _ rfl).mono ?_
  rintro e w1 ⟨q, rfl, hc1, hk1⟩
  have HC1 := Lib.hid hc1
  have HK1 := Lib.hid (HK0.out.trans hk1)
  clear hc1 hk1
  go_wp2_with fail
  refine (HSZ.out q _).mono ?_
  rintro e w2 ⟨rfl, hb2⟩
  have HC2 := Lib.hid (HC1.out.kp hb2)
  have HK2 := Lib.hid (HK1.out.trans (Kp.below hb2 (Nat.le_of_lt HC1.out.lt)))
  clear hb2 HC1 HK1
  have hsz2 : w.heap.size < w2.heap.size := by have := HK2.out.1.size; have := HCL.out; omega
  cases hs : isSz q with
  | false =>
    go_wp2_with fail
    refine (HT.out _ q _ HC2.out (by omega)).mono ?_
    rintro e w6 ⟨v6, l6, rfl, hl6, hr6, hc6, hk6⟩
    have HR6 := Lib.hid hr6
    have HK6 := Lib.hid (HK2.out.trans hk6)
    clear hc6 hk6 hr6
    go_wp2
    go_ret2
    exact ⟨q, v6, l6, rfl, hl6, HR6.out.mono (Nat.le_of_lt hsz2), HK6.out.start⟩
  | true =>
    by_cases h7 : q > 7
    ·
      go_wp2_with fail
      refine (HT.out _ q _ HC2.out (by omega)).mono ?_
      rintro e w6 ⟨v6, l6, rfl, hl6, hr6, hc6, hk6⟩
      have HR6 := Lib.hid hr6
      have HK6 := Lib.hid (HK2.out.trans hk6)
      clear hc6 hk6 hr6
      go_wp2
      go_ret2
      exact ⟨q, v6, l6, rfl, hl6, HR6.out.mono (Nat.le_of_lt hsz2), HK6.out.start⟩
    · by_cases h3 : q < 3
      ·
        go_wp2_with fail
        refine (HT.out _ q _ HC2.out (by omega)).mono ?_
        rintro e w6 ⟨v6, l6, rfl, hl6, hr6, hc6, hk6⟩
        have HR6 := Lib.hid hr6
        have HK6 := Lib.hid (HK2.out.trans hk6)
        clear hc6 hk6 hr6
        go_wp2
        go_ret2
        exact ⟨q, v6, l6, rfl, hl6, HR6.out.mono (Nat.le_of_lt hsz2), HK6.out.start⟩
      · go_wp2_with fail
        refine (HO.out _ 3 _ HC2.out (by omega)).mono ?_
        rintro e w3 ⟨b, rfl, hc3, hk3⟩
        have HC3 := Lib.hid hc3
        have HK3 := Lib.hid (HK2.out.trans hk3)
        have hsz3 : w.heap.size < w3.heap.size := by have := hk3.1.size; omega
        clear hc3 hk3
        cases b with
        | true =>
          go_wp2_with fail
          refine (HT.out _ q _ HC3.out (by omega)).mono ?_
          rintro e w6 ⟨v6, l6, rfl, hl6, hr6, hc6, hk6⟩
          have HR6 := Lib.hid hr6
          have HK6 := Lib.hid (HK3.out.trans hk6)
          clear hc6 hk6 hr6
          go_wp2
          go_ret2
          exact ⟨q, v6, l6, rfl, hl6, HR6.out.mono (Nat.le_of_lt hsz3), HK6.out.start⟩
        | false =>
          obtain ⟨m, rfl⟩ := Int.eq_ofNat_of_zero_le (show 0 ≤ q by omega)
          have HCM := Lib.hid (fun w => cmAll_0 m w hs (by omega))
          have hlen := cm_some hs (by omega) (by omega)
          have hle := (cm_ok hs (by omega)).2
          have hrow := fun r (hr : r < (cmT m).length) => (cm_row hs (by omega) hr).2.2.1
          have HROW := Lib.hid hrow; clear hrow
          clear hs
          go_wp2_with fail
          refine (HCM.out _).mono ?_
          rintro e w4 ⟨v4, X, rfl, hr4, hb4⟩
          obtain ⟨g, cap, rfl, hgB, hgl, hcl⟩ := hr4.form hlen
          have HR4 := Lib.hid hr4; clear hr4
          have HCE := Lib.hid hcl; clear hcl
          have HC4 := Lib.hid (HC3.out.kp hb4)
          have HK4 := Lib.hid (HK3.out.trans (Kp.below hb4 (Nat.le_of_lt HC3.out.lt)))
          clear hb4 HCM
          have HLEN := Lib.hid hlen
          go_wp2_with fail
          have HPX : Hid (Calls Tryz.prog 88 #[.pointer (some ⟨w.heap.size, 0, none⟩), .int .i64 ((cmT m).length : Int)] w4.drew fun e w' => ∃ i : Nat, e = .returned (.int .i64 (i : Int)) ∧ i < (cmT m).length ∧ w'.cell? ⟨g, i, none⟩ = some (X i) ∧ Row w' w3.heap.size (X i) ((cmT m).getD i []) ∧ ((cmT m).getD i []).length = m ∧ Kp w.heap.size w4.drew w' ∧ g < w'.heap.size) := Lib.hid (by
            refine (HP.out _ _ _ HC4.out.drew (by omega)).mono ?_
            rintro e w5 ⟨z, rfl, hz0, hz, hc5, hk5⟩
            obtain ⟨i, rfl⟩ : ∃ i : Nat, z = (i : Int) := by
              by_cases h1 : 1 < ((cmT m).length : Int)
              · exact Int.eq_ofNat_of_zero_le (hz h1).1
              · exact ⟨0, hz0 (by omega)⟩
            have hil : i < (cmT m).length := by
              by_cases h1 : 1 < ((cmT m).length : Int)
              · have := (hz h1).2; omega
              · have := hz0 (by omega); omega
            exact ⟨i, rfl, hil, (World.cell?_of_block (a := ⟨g, i, none⟩) (hk5.2 g hgl (by omega))).trans (HCE.out i hil), Row.kp (w := w4.drew) (HR4.out.inner i hil) hk5 hsz3, HROW.out i hil, hk5, by have h9 : w4.heap.size ≤ w5.heap.size := hk5.1.size; omega⟩)
          clear hlen HR4 HCE HROW
          generalize (cmT m).length = N at *
          go_region_with (go_at_call 88; refine HPX.out.mono ?_; rintro e w5 ⟨i, rfl, hil, c5, hr5, hl5, hk5, hgl5⟩)
          all_goals
            have HRI := Lib.hid hr5
            have HL := Lib.hid hl5
            have HK5 := Lib.hid (HK4.out.drew.trans hk5)
            clear hr5 hl5 hk5
            go_wp2
            go_ret2
            exact ⟨_, _, _, rfl, by have := HL.out; omega, HRI.out.mono (Nat.le_of_lt hsz3), HK5.out.start⟩

end Go.Proofs.YtapglncgicfjnabGreat
/-! ZW -/
namespace Go.Proofs.YtapglncgicfjnabGreat
open Go.RowKit
set_option maxRecDepth 100000 in
set_option maxHeartbeats 40000000 in
/-- laws.FnCompleteCounted. -/
theorem walk_FnCompleteCounted (a0 : Option Addr) (n0 c0 : Nat) (z0 : List Int) (a1 : Option Addr) (n1 c1 : Nat) (z1 : List Int) (w : World) (h0 : IsRow .u8 w a0 n0 c0 z0) (h1 : IsRow .u8 w a1 n1 c1 z1) :
    Calls Tryz.prog 6 #[.slice a0 n0 c0, .slice a1 n1 c1] w fun e w' => e = .returned (.bool true) ∧ Below w.heap.size w w' := by
  by_cases hbg : n0 + n1 ≤ 1048576
  · have HBG := Lib.hid (big_no a0 a1 n0 c0 n1 c1 w hbg)
    have H0 := Lib.hid (h0.bys (by omega))
    have H1 := Lib.hid (h1.bys (by omega))
    clear h0 h1 hbg
    go_enter Tryz.func6, Tryz.ntmps6
    go_wp2_with fail
    refine HBG.out.mono ?_
    rintro e _ ⟨rfl, rfl⟩
    clear HBG
    go_wp2_with fail
    refine (drawCompleteWith_any a0 n0 c0 _ H0.out).mono ?_
    rintro e wu1 ⟨q, r, rfl, hb⟩
    have HB1 := Lib.hid hb; clear hb
    obtain ⟨T, cnt, o, o1, hl, i1, i2, i3, i4, hcond, i6⟩ := ask_CWith q r
    have HL := Lib.hid hl; clear hl
    have HCO := Lib.hid hcond; clear hcond
    have I1 := Lib.hid i1; clear i1
    have I2 := Lib.hid i2; clear i2
    have I3 := Lib.hid i3; clear i3
    have I4 := Lib.hid i4; clear i4
    have I6 := Lib.hid i6; clear i6
    go_wp2_with fail
    refine (I1.out _).mono ?_
    rintro e wu2 ⟨v1, rfl, hr, hb⟩
    have S_v1 := Lib.hid hr.sl; clear hr
    have HB2 := Lib.hid hb; clear hb
    go_wp2_with fail
    refine (I2.out _).mono ?_
    rintro e wu3 ⟨v2, rfl, hr, hb⟩
    have S_v2 := Lib.hid hr.sl; clear hr
    have HB3 := Lib.hid hb; clear hb
    go_wp2_with fail
    refine (I3.out _).mono ?_
    rintro e wu4 ⟨rfl, hb⟩
    have HB4 := Lib.hid hb; clear hb
    go_wp2_with fail
    refine (I4.out _).mono ?_
    rintro e wu5 ⟨rfl, hb⟩
    have HB5 := Lib.hid hb; clear hb
    have HTS := Lib.hid (tSame_same v1 v2 T _ (S_v1.out.below (stp (stp HB3.out HB4.out) HB5.out) (Nat.le_refl _)) (S_v2.out.below (stp HB4.out HB5.out) (Nat.le_refl _)) HL.out)
    go_upto_region 8 with (fail)
    go_cut [8, 10, 12, 14, 102] from 40 to 101 (fun s8 s10 s12 s14 s102 wx => s8 = .bool o ∧ s10 = .bool o ∧ s12 = .bool o1 ∧ s14 = .bool o1 ∧ s102 = .bool false ∧ Below wu5.heap.size wu5 wx)
    case first =>
      rcases HCO.out with ⟨rfl, rfl⟩ | ⟨rfl, rfl, h1⟩ | ⟨rfl, rfl, h1, h2⟩ | ⟨rfl, rfl, h1, h2⟩
      · go_wp2_with fail
        refine HTS.out.mono ?_
        rintro e y1 ⟨rfl, hy⟩
        have HY := Lib.hid hy; clear hy
        go_wp2_with fail
        go_meet
        exact ⟨rfl, rfl, rfl, rfl, by first | rfl | simp, HY.out⟩
      · have h3 : ¬ r ≥ 0 := by omega
        go_wp2_with fail
        refine HTS.out.mono ?_
        rintro e y1 ⟨rfl, hy⟩
        have HY := Lib.hid hy; clear hy
        go_wp2_with fail
        go_meet
        exact ⟨rfl, rfl, rfl, rfl, by first | rfl | simp, HY.out⟩
      · have h3 : ¬ r < cnt := by omega
        have h4 : r ≥ 0 := h1
        go_wp2_with fail
        refine HTS.out.mono ?_
        rintro e y1 ⟨rfl, hy⟩
        have HY := Lib.hid hy; clear hy
        go_wp2_with fail
        go_meet
        exact ⟨rfl, rfl, rfl, rfl, by first | rfl | simp [h3], HY.out⟩
      · have h4 : r ≥ 0 := h1
        go_wp2_with fail
        refine HTS.out.mono ?_
        rintro e y1 ⟨rfl, hy⟩
        have HY := Lib.hid hy; clear hy
        go_wp2_with fail
        go_meet
        exact ⟨rfl, rfl, rfl, rfl, by first | rfl | simp [h2, h4], HY.out⟩
    case rest =>
      obtain ⟨rfl, rfl, rfl, rfl, rfl, hbd⟩ := hcut
      obtain ⟨wd, rfl⟩ : ∃ z : World, z = wc := ⟨_, rfl⟩
      have HBD := Lib.hid hbd; clear hbd
      go_upto_if 103 with (fail)
      go_cut [4, 7, 8, 9, 10, 11, 12, 13, 14, 15, 16, 17, 18, 19, 20, 21, 22, 23] from 102 to 182 (fun s4 _s7 _s8 _s9 _s10 _s11 _s12 _s13 _s14 _s15 _s16 _s17 _s18 _s19 _s20 _s21 _s22 _s23 wx => s4 = .bool false ∧ Below w.heap.size w wx)
      case first =>
        cases o with
        | false =>
          go_wp2_with fail
          go_meet
          exact ⟨rfl, (stp (stp (stp (stp (stp HB1.out HB2.out) HB3.out) HB4.out) HB5.out) HBD.out)⟩
        | true =>
          obtain ⟨m, F, T2, o2, hw, r0, rc, ho2, hT, m1, m16, hT0, hF, hT2, j1, j2, j3, j4, j5⟩ := I6.out rfl
          clear I6 I1 I2 I3 I4 HCO
          have J1 := Lib.hid j1; clear j1
          have J2 := Lib.hid j2; clear j2
          have J3 := Lib.hid j3; clear j3
          have J4 := Lib.hid j4; clear j4
          have J5 := Lib.hid j5; clear j5
          have HO2 := Lib.hid ho2; clear ho2
          have HT0 := Lib.hid hT0; clear hT0
          have SV := Lib.hid (S_v1.out.below (stp (stp (stp HB3.out HB4.out) HB5.out) HBD.out) (Nat.le_refl _))
          obtain ⟨b1, off1, c1', rfl, hb1, hc1⟩ := SV.out.open rfl (by omega)
          have HC1 := Lib.hid hc1; clear hc1
          have hTl : 0 < T.length := by omega
          have HT := Lib.hid hT; clear hT
          go_wp2_with fail
          refine (J1.out _ _ SV.out).mono ?_
          rintro e wu6 ⟨v3, rfl, hr, hb⟩
          have S_v3 := Lib.hid hr.sl; clear hr
          have HB6 := Lib.hid hb; clear hb
          go_wp2_with fail
          refine (J2.out _ v3 S_v3.out).mono ?_
          rintro e wu7 ⟨rfl, hb⟩
          have HB7 := Lib.hid hb; clear hb
          go_wp2_with fail
          refine (J3.out _ _ (SV.out.below (stp HB6.out HB7.out) (Nat.le_refl _))).mono ?_
          rintro e wu8 ⟨rfl, hb⟩
          have HB8 := Lib.hid hb; clear hb
          go_wp2_with fail
          refine (J4.out _).mono ?_
          rintro e wu9 ⟨v4, rfl, hr, hb⟩
          have S_v4 := Lib.hid hr.sl; clear hr
          have HB9 := Lib.hid hb; clear hb
          have e0 : wu9.cell? ⟨b1, off1, none⟩ = some (.int .i64 0) := by
            have := ((stp (stp (stp HB6.out HB7.out) HB8.out) HB9.out).cell (p := ⟨b1, off1 + 0, none⟩) hb1).trans (HC1.out 0 hTl)
            rw [HT0.out, Nat.add_zero] at this
            exact this
          have hbl : b1 < wu9.heap.size := by have := (stp (stp (stp HB6.out HB7.out) HB8.out) HB9.out).size; omega
          skip
          by_cases hn : r + 1 < cnt
          · have ho2 : o2 = true := by rw [HO2.out]; exact decide_eq_true hn
            subst ho2
            obtain ⟨hl2, d, hd, hdl, hdj⟩ := J5.out rfl
            have HDL := Lib.hid hdl; clear hdl
            have HDJ := Lib.hid hdj; clear hdj
            have S4 := Lib.hid S_v4.out
            obtain ⟨b2, off2, c2', rfl, hb2, hc2⟩ := S4.out.open hl2 (by omega)
            have HC2 := Lib.hid hc2; clear hc2 hl2
            have HC1' : Hid (∀ i, i < m → wu9.cell? ⟨b1, off1 + i, none⟩ = some (.int .i64 (T.getD i 0))) := Lib.hid fun i hi => ((stp (stp (stp HB6.out HB7.out) HB8.out) HB9.out).cell (p := ⟨b1, off1 + i, none⟩) hb1).trans (HC1.out i (by rw [HT.out]; exact hi))
            rw [HT.out]
            have hTl2 : 0 < m := by omega
            clear hTl
            go_wp2_with fail
            clear e0 hn
            go_loopw [23] (fun vk wr => ∃ k : Nat, k ≤ d ∧ vk = .int .i64 k ∧ Below wu9.heap.size wu9 wr) (fun vk _ => d - (intOf vk).toNat)
            case atStart => exact ⟨0, Nat.zero_le _, rfl, Below.refl _ _⟩
            case round =>
              obtain ⟨k, hk, rfl, hb⟩ := hrel
              have HBW := Lib.hid hb; clear hb
              have e1 := (HBW.out.cell (p := ⟨b1, off1 + k, none⟩) hbl).trans (HC1'.out k (by omega))
              have e2 := (HBW.out.cell (p := ⟨b2, off2 + k, none⟩) hb2).trans (HC2.out k (by omega))
              have l1 : b1 < wr.heap.size := by have := HBW.out.size; omega
              have l2 : b2 < wr.heap.size := by have := HBW.out.size; omega
              have hkm : k < m := by omega
              by_cases hlt : k < d
              · have he := HDJ.out k hlt
                have HX : Hid (T.getD k 0 = T2.getD k 0) := Lib.hid he
                rw [← he] at e2
                clear he
                generalize T.getD k 0 = x at *
                go_wp2_with fail
                go_region
                go_wp2_with fail
                go_roundw
                case rel => exact ⟨k + 1, by omega, by go_num, HBW.out.drew⟩
                case measure => simp [intOf]; omega
              · obtain rfl : d = k := by omega
                have hne := HDL.out
                generalize T.getD d 0 = x at *
                generalize T2.getD d 0 = y at *
                have n1 : (x == y) = false := by simp; omega
                have n2 : ¬ x = y := by omega
                have n3 : ¬ x > y := by omega
                have n4 : decide (x = y) = false := by simp; omega
                have n5 : decide (y < x) = false := by simp; omega
                go_wp2_with fail
                go_region
                go_wp2_with fail
                go_region
                go_wp2_with fail
                go_meet
                exact ⟨rfl, stp (stp (stp (stp (stp (stp (stp (stp (stp (stp HB1.out HB2.out) HB3.out) HB4.out) HB5.out) HBD.out) HB6.out) HB7.out) HB8.out) HB9.out) HBW.out.drew.drew⟩
          · have ho2 : o2 = false := by rw [HO2.out]; exact decide_eq_false hn
            subst ho2
            go_wp2_with fail
            go_meet
            exact ⟨rfl, (stp (stp (stp (stp (stp (stp (stp (stp (stp HB1.out HB2.out) HB3.out) HB4.out) HB5.out) HBD.out) HB6.out) HB7.out) HB8.out) HB9.out)⟩
      case rest =>
        obtain ⟨rfl, hbc⟩ := hcut
        obtain ⟨wc10, rfl⟩ : ∃ z : World, z = wc := ⟨_, rfl⟩
        have HBwc10 := Lib.hid hbc; clear hbc
        go_wp2_with fail
        refine (drawRankComplete_any a1 n1 c1 _ (H1.out.below HBwc10.out)).mono ?_
        rintro e wu11 ⟨r, v0, l, rfl, hl48, hr, hb⟩
        have S_v0 := Lib.hid hr.sl; clear hr
        have HB11 := Lib.hid hb; clear hb
        obtain ⟨at0, o, k1, k2⟩ := key_RankComplete r l (by omega)
        have K1 := Lib.hid k1; clear k1
        have K2 := Lib.hid k2; clear k2 hl48
        go_wp2_with fail
        refine (K2.out _ v0 S_v0.out).mono ?_
        rintro e wu12 ⟨rfl, hb⟩
        have HB12 := Lib.hid hb; clear hb
        go_wp2_with fail
        refine (K1.out _ v0 (S_v0.out.below HB12.out (Nat.le_refl _))).mono ?_
        rintro e wu13 ⟨rfl, hb⟩
        have HB13 := Lib.hid hb; clear hb
        clear S_v0
        go_wp2_with fail
        refine (drawCompleteLinear_any a1 n1 c1 _ (H1.out.below (stp (stp (stp HBwc10.out HB11.out) HB12.out) HB13.out))).mono ?_
        rintro e wu14 ⟨s, rfl, hb⟩
        have HB14 := Lib.hid hb; clear hb
        obtain ⟨L, o3, hl, i1, i2, i3⟩ := ask_Lin s
        have HL := Lib.hid hl; clear hl
        have I1 := Lib.hid i1; clear i1
        have I2 := Lib.hid i2; clear i2
        have I3 := Lib.hid i3; clear i3
        go_wp2_with fail
        refine (I1.out _).mono ?_
        rintro e wu15 ⟨v1, rfl, hr, hb⟩
        have S_v1 := Lib.hid hr.sl; clear hr
        have HB15 := Lib.hid hb; clear hb
        go_wp2_with fail
        refine (I2.out _).mono ?_
        rintro e wu16 ⟨v2, rfl, hr, hb⟩
        have S_v2 := Lib.hid hr.sl; clear hr
        have HB16 := Lib.hid hb; clear hb
        go_wp2_with fail
        refine (tSame_same v1 v2 L _ (S_v1.out.below HB16.out (Nat.le_refl _)) S_v2.out HL.out).mono ?_
        rintro e wu17 ⟨rfl, hb⟩
        have HB17 := Lib.hid hb; clear hb
        cases o3 with
        | false =>
          go_wp2
          go_ret
          exact ⟨rfl, (stp (stp (stp (stp (stp (stp (stp HBwc10.out HB11.out) HB12.out) HB13.out) HB14.out) HB15.out) HB16.out) HB17.out)⟩
        | true =>
          obtain ⟨m, P, rfl, m2, m16, hlen, hP⟩ := I3.out rfl
          clear I1 I2 I3
          have HP := Lib.hid hP; clear hP
          have HLEN := Lib.hid hlen; clear hlen
          have S1 := Lib.hid (S_v1.out.below (stp HB16.out HB17.out) (Nat.le_refl _))
          obtain ⟨la, lc, rfl⟩ := S1.out.form
          have HT : Hid (∀ w' (x : Int), Below wu17.heap.size wu17 w' → Calls Tryz.prog 16 #[_, .int .i64 x] w' fun e w'' => e = .returned (.bool (decide (x ∈ L))) ∧ Below w'.heap.size w' w'') := Lib.hid fun w' x hb => tHas_any _ L x w' (S1.out.below hb (Nat.le_refl _)) HL.out
          go_wp2_with fail
          go_loopw [4, 35] (fun v4 va wr => ∃ a : Nat, a ≤ m ∧ v4 = .bool false ∧ va = .int .i64 a ∧ Below wu17.heap.size wu17 wr) (fun _ va _ => m - (intOf va).toNat)
          case atStart => exact ⟨0, Nat.zero_le _, rfl, rfl, Below.refl _ _⟩
          case round =>
            obtain ⟨a, ha, rfl, rfl, hb⟩ := hrel
            have HBW := Lib.hid hb; clear hb
            by_cases hlt : a < m
            · obtain ⟨hin, F, g1, g2⟩ := HP.out a hlt
              have G1 : Hid (∀ w, Calls Tryz.prog 64 #[.int .i64 m, .slice (some ⟨w.heap.size, 0, none⟩) 2 2] (w.alloc (.cells #[.int .i64 0, .int .i64 a] 3)) fun e w' => ∃ v', e = .returned (.tuple #[v', .bool true]) ∧ Sl w' v' F ∧ Below w.heap.size w w') := Lib.hid fun w => by
                have hr : Row (w.alloc (.cells #[.int .i64 0, .int .i64 a] 3)) 0 (.slice (some ⟨w.heap.size, 0, none⟩) 2 2) [0, (a : Int)] := Row.heap (by rw [heap_alloc_new]; rfl) (Nat.zero_le _) rfl (by unfold maxLen; omega)
                refine (g1 _ _ hr.sl).mono ?_
                rintro e w' ⟨v', rfl, hr', hb'⟩
                exact ⟨v', rfl, hr'.sl, stpNew (Below.refl _ _) hb'⟩
              have G2 := Lib.hid g2
              have HTI := Lib.hid (fun w' hb => HT.out w' (a : Int) hb)
              rw [hin] at HTI
              clear hin g1 g2
              generalize P a = b at *
              go_wp2_with fail
              refine (G1.out _).mono ?_
              rintro e y1 ⟨v3, rfl, hr, hy⟩
              have SF := Lib.hid hr; clear hr
              have HY1 := Lib.hid (stp HBW.out hy); clear hy
              go_wp2_with fail
              refine (G2.out _ v3 SF.out).mono ?_
              rintro e y2 ⟨rfl, hy⟩
              have HY2 := Lib.hid (stp HY1.out hy); clear hy
              go_wp2_with fail
              refine (HTI.out _ HY2.out).mono ?_
              rintro e y3 ⟨rfl, hy⟩
              have HY3 := Lib.hid (stp HY2.out hy); clear hy
              go_wp2
              go_roundw
              case rel => exact ⟨a + 1, by omega, rfl, by go_num, HY3.out⟩
              case measure => simp [intOf]; omega
            · obtain rfl : m = a := by omega
              have hlen := HLEN.out
              have hw : IntKind.i64.wrap ((m : Int) - 2) = (m : Int) - 2 := IntWalk.i64_in _ (by omega)
              rw [← HLEN.out] at hw
              have hb : ((L.length : Int) == (m : Int) - 2) = true := by simp [HLEN.out]
              go_wp2
              go_ret
              exact ⟨by first | rfl | simp [HLEN.out] | (have := HLEN.out; simp; omega), stp (stp (stp (stp (stp (stp (stp (stp HBwc10.out HB11.out) HB12.out) HB13.out) HB14.out) HB15.out) HB16.out) HB17.out) HBW.out⟩
  · have HBG := Lib.hid (big_yes a0 a1 n0 c0 n1 c1 w hbg)
    clear h0 h1 hbg
    go_enter Tryz.func6, Tryz.ntmps6
    go_wp2_with fail
    refine HBG.out.mono ?_
    rintro e _ ⟨rfl, rfl⟩
    go_wp2
    go_ret
    exact ⟨rfl, Below.refl _ _⟩
end Go.Proofs.YtapglncgicfjnabGreat
