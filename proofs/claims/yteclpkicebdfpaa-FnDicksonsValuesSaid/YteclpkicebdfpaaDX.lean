/- The walk of the general law FnDicksonsValues. -/
import Derived.Test.YteclpkicebdfpaaDT
import Derived.Test.YteclpkicebdfpaaDW
import Derived.Test.YteclpkicebdfpaaNL
import Derived.Test.YteclpkicebdfpaaNI
import Derived.Test.YteclpkicebdfpaaKL
import Derived.Test.YteclpkicebdfpaaKP
import Derived.Test.YteclpkicebdfpaaGC
namespace Go.Proofs.Yteclpkicebdfpaa
open Go.RowKit
theorem ptl_good {m : Nat} {t : Nat → Int} (h : isSz (m : Int) = true) (ht : ∀ i, i < m → El (m : Int) (t i)) : good (m : Int) (ptl m t) = true := by
  obtain ⟨f1, f2, f3⟩ := ptl_form h ht
  have g2 : (ptl m t).all (inF (m : Int)) = true := List.all_eq_true.2 fun x hx => by
    have := f2 x hx
    simpa [inF, El] using this
  by_cases h0 : 0 < (ptl m t).length
  · rw [good_last (by omega) g2 h0]
    exact decide_eq_true (f3 h0)
  · rw [List.length_eq_zero_iff.1 (show (ptl m t).length = 0 by omega)]
    exact good_nil _ (by omega)
theorem ptl_hor {m : Nat} {t : Nat → Int} (h : isSz (m : Int) = true) (ht : ∀ i, i < m → El (m : Int) (t i)) {x : Int} (hx : El (m : Int) x) :
    hor (m : Int) x (fun i => (ptl m t).getD i 0) (ptl m t).length (ptl m t).length = t x.toNat := by
  obtain ⟨X, rfl⟩ := Int.eq_ofNat_of_zero_le hx.1
  have hel : ∀ i, El (m : Int) ((ptl m t).getD i 0) := fun i => by
    by_cases hi : i < (ptl m t).length
    · exact good_el (ptl_good h ht) i hi
    · rw [List.getD_eq_getElem?_getD, List.getElem?_eq_none (by omega)]
      exact El.zero h
  rw [hor_val h hx hel, ptl_at h ht X (by have := hx.2; omega), Int.toNat_natCast]
set_option maxRecDepth 100000 in
theorem mul_back {q y a : Int} (h : isSz q = true) (hy : El q y) (ha : El q a) (h0 : y ≠ 0) : mulF q y (mulF q a (invF q y)) = a :=
  (of_decide_eq_true (of_chk2 (f := fun q y a => decide (y = 0 ∨ mulF q y (mulF q a (invF q y)) = a)) (by decide +kernel) q y a h hy.1 hy.2 ha.1 ha.2)).resolve_left h0
theorem inE_of {q x : Int} (h : isSz q = true) (hx : El q x) : inE q x = true := by
  simp [inE, h, hx.1, hx.2]
/-- What the law asks of DicksonAt. -/
theorem ask_DicksonAt (q n a y : Int) : ∃ (r : Int) (o : Bool),
    (∀ w, Calls Try.prog 8 #[.int .i64 q, .int .i64 n, .int .i64 a, .int .i64 y] w fun e w' => e = .returned (.tuple #[.int .i64 r, .bool o]) ∧ Below w.heap.size w w') ∧
    (∀ w, Calls Try.prog 7 #[.int .i64 q, .int .i64 n, .int .i64 a, .int .i64 y] w fun e w' => e = .returned (.tuple #[.int .i64 r, .bool o]) ∧ Below w.heap.size w w') ∧
    (o = true → ∃ (l : List Int) (b p x : Int),
      (∀ w, Calls Try.prog 9 #[.int .i64 q, .int .i64 n, .int .i64 a] w fun e w' => ∃ v, e = .returned (.tuple #[v, .bool true]) ∧ Row w' w.heap.size v l ∧ Below w.heap.size w w') ∧
      (∀ w, Calls Try.prog 10 #[.int .i64 q, .int .i64 y] w fun e w' => e = .returned (.tuple #[.int .i64 b, .bool true]) ∧ Below w.heap.size w w') ∧
      (∀ w, Calls Try.prog 11 #[.int .i64 q, .int .i64 a, .int .i64 b] w fun e w' => e = .returned (.tuple #[.int .i64 p, .bool true]) ∧ Below w.heap.size w w') ∧
      (∀ w, Calls Try.prog 12 #[.int .i64 q, .int .i64 y, .int .i64 p] w fun e w' => e = .returned (.tuple #[.int .i64 x, .bool true]) ∧ Below w.heap.size w w') ∧
      (∀ w v, Sl w v l → Calls Try.prog 13 #[.int .i64 q, v, .int .i64 x] w fun e w' => e = .returned (.tuple #[.int .i64 r, .bool true]) ∧ Below w.heap.size w w')) := by
  cases h : dat q n a y with
  | false => exact ⟨0, false, fun w => spec_DicksonAt_no q n a y w h, fun w => impl_DicksonAt_no q n a y w h, fun e => by cases e⟩
  | true =>
    unfold dat at h
    rw [Bool.and_eq_true] at h
    obtain ⟨m, k, rfl, rfl, ha, hk⟩ := asked2_nat h.1
    have h2 := h.2
    simp only [Bool.and_eq_true, Bool.not_eq_true', decide_eq_false_iff_not] at h2
    obtain ⟨hy, hy0⟩ := h2
    refine ⟨dav m k a y, true, fun w => spec_DicksonAt_yes m k a y w ha hy hy0 hk, fun w => impl_DicksonAt_yes m k a y w ha hy hy0 hk, fun _ => ?_⟩
    obtain ⟨hs, a0, a1⟩ := inE_yes ha
    have eA : El (m : Int) a := ⟨a0, a1⟩
    have eY : El (m : Int) y := inE_el hy
    have eB : El (m : Int) (invF m y) := invF_bd (m : Int) y hs eY.1 eY.2
    have eP := eA.mul hs eB
    have eX := eY.add hs eP
    have ht : ∀ i, i < m → El (m : Int) (dkt m a k i) := fun i hi => dkt_el hs eA k i hi
    refine ⟨ptl m (dkt m a k), invF m y, mulF m a (invF m y), addF m y (mulF m a (invF m y)), fun w => impl_DicksonOf_yes m k a w ha hk, fun w => impl_InverseOf_yes (m : Int) y w (by simp [inN, hy, hy0]), fun w => impl_TimesOf_yes (m : Int) a _ w ha (inE_of hs eB), fun w => impl_PlusOf_yes (m : Int) y _ w hy (inE_of hs eP), fun w v hv => ?_⟩
    have hr : dkv m a k (addF m y (mulF m a (invF m y))) = dav m k a y := (dkv_sum hs eY eP (mul_back hs eY eA hy0) k).1
    have hv' : hor (m : Int) (addF m y (mulF m a (invF m y))) (fun i => (ptl m (dkt m a k)).getD i 0) (ptl m (dkt m a k)).length (ptl m (dkt m a k)).length = dav m k a y := by
      rw [ptl_hor hs ht eX, ← hr]
      show dkv m a k ((addF m y (mulF m a (invF m y))).toNat : Int) = _
      rw [Int.toNat_of_nonneg eX.1]
    have := impl_ValueAt_yes (m : Int) _ v _ w hv hs (ptl_good hs ht) (inE_of hs eX)
    rw [hv'] at this
    exact this
/-- What the law asks of JoinDickson. -/
theorem ask_JoinDickson (q M N a : Int) : ∃ (r : List Int) (o : Bool), r.length ≤ 1048576 ∧
    (∀ w, Calls Try.prog 16 #[.int .i64 q, .int .i64 M, .int .i64 N, .int .i64 a] w fun e w' => ∃ v, e = .returned (.tuple #[v, .bool o]) ∧ Row w' w.heap.size v r ∧ Below w.heap.size w w') ∧
    (∀ w, Calls Try.prog 15 #[.int .i64 q, .int .i64 M, .int .i64 N, .int .i64 a] w fun e w' => ∃ v, e = .returned (.tuple #[v, .bool o]) ∧ Row w' w.heap.size v r ∧ Below w.heap.size w w') ∧
    (o = true → IntKind.i64.wrap (M * N) = M * N ∧
      ∀ w, Calls Try.prog 9 #[.int .i64 q, .int .i64 (M * N), .int .i64 a] w fun e w' => ∃ v, e = .returned (.tuple #[v, .bool true]) ∧ Row w' w.heap.size v r ∧ Below w.heap.size w w') := by
  cases h : ((isSz q && in20 M) && (in20 N && inE q a)) with
  | false => exact ⟨[], false, by simp, fun w => (spec_JoinDickson_no q M N a w h).mono fun _ _ ⟨he, hb⟩ => ⟨_, he, Row.nil _ _, hb⟩, fun w => (impl_JoinDickson_no q M N a w h).mono fun _ _ ⟨he, hb⟩ => ⟨_, he, Row.nil _ _, hb⟩, fun e => by cases e⟩
  | true =>
    simp only [Bool.and_eq_true] at h
    obtain ⟨⟨h0, h1⟩, h2, h3⟩ := h
    obtain ⟨m, rfl⟩ := size_nat h0
    obtain ⟨M', rfl, hM⟩ := in20_nat h1
    obtain ⟨N', rfl, hN⟩ := in20_nat h2
    have hq := isSz_le (m : Int) h0
    have hMN : M' * N' ≤ 400 := Nat.le_trans (Nat.mul_le_mul hM hN) (by decide)
    have eA := inE_el h3
    refine ⟨_, true, by have := ptl_len m (jdt m M' N' a); omega, fun w => spec_JoinDickson_yes m M' N' a w h3 hM hN, fun w => impl_JoinDickson_yes m M' N' a w h3 hM hN, fun _ => ?_⟩
    rw [← Int.natCast_mul]
    refine ⟨IntWalk.i64_in _ (by omega), fun w => ?_⟩
    have e : ptl m (jdt m M' N' a) = ptl m (dkt m a (M' * N')) := ptl_congr fun x hx => by
      have e1 := (dkv_join h0 eA (El.nat hx) N' M').1
      show dkv m (pw m a N') M' ((dkv m a N' (x : Int)).toNat : Int) = dkv m a (M' * N') (x : Int)
      rw [Int.toNat_of_nonneg (show 0 ≤ dkv m a N' (x : Int) from (dkt_el h0 eA N' x hx).1), e1]
    rw [e]
    exact impl_DicksonOf_yes m (M' * N') a w h3 hMN
set_option maxHeartbeats 1000000 in
/-- laws.tSame, of two slices that hold the same. -/
theorem tSame_same (v1 v2 : Value) (l : List Int) (w : World) (h1 : Sl w v1 l) (h2 : Sl w v2 l) (hl : l.length ≤ 1048576) :
    Calls Try.prog 17 #[v1, v2] w fun e w' => e = .returned (.bool true) ∧ Below w.heap.size w w' := by
  by_cases h0 : 0 < l.length
  · obtain ⟨b1, o1, c1, rfl, hb1, hc1⟩ := h1.open rfl h0
    obtain ⟨b2, o2, c2, rfl, hb2, hc2⟩ := h2.open rfl h0
    have HC1 := Lib.hid hc1
    have HC2 := Lib.hid hc2
    clear h1 h2 hc1 hc2
    generalize hn : l.length = n at *
    go_enter Try.func17, Try.ntmps17
    go_wp2_with fail
    go_loopw [13] (fun vi wr => ∃ i : Nat, i ≤ n ∧ vi = .int .i64 i ∧ Below w.heap.size w wr) (fun vi _ => n - (intOf vi).toNat)
    case atStart => exact ⟨0, Nat.zero_le _, rfl, by (repeat' (first | (with_reducible assumption) | (with_reducible exact Below.refl _ _) | (with_reducible refine below_drewN ?_ _) | (with_reducible refine Below.drew ?_) | (with_reducible refine Below.alloc ?_ ?_ _) | (with_reducible refine Below.setCell ?_ ?_ _) | (with_reducible refine Below.trans ?_ (Below.mono (by assumption) ?_)) | (with_reducible exact Nat.le_refl _) | (with_reducible assumption) | omega | (simp; omega) | (simp; done)))⟩
    case round =>
      obtain ⟨i, hi, rfl, hb⟩ := hrel
      by_cases hlt : i < n
      · have e1 := (hb.cell (p := ⟨b1, o1 + i, none⟩) hb1).trans (HC1.out i hlt)
        have e2 := (hb.cell (p := ⟨b2, o2 + i, none⟩) hb2).trans (HC2.out i hlt)
        have hz := hb.size
        have HB := Lib.hid hb; clear hb
        generalize l.getD i 0 = x at *
        have l1 : b1 < wr.heap.size := by omega
        have l2 : b2 < wr.heap.size := by omega
        go_wp2_with fail
        go_region
        go_wp2_with fail
        go_roundw
        case rel => exact ⟨i + 1, by omega, by go_num, by have hb := HB.out; (repeat' (first | (with_reducible assumption) | (with_reducible exact Below.refl _ _) | (with_reducible refine below_drewN ?_ _) | (with_reducible refine Below.drew ?_) | (with_reducible refine Below.alloc ?_ ?_ _) | (with_reducible refine Below.setCell ?_ ?_ _) | (with_reducible refine Below.trans ?_ (Below.mono (by assumption) ?_)) | (with_reducible exact Nat.le_refl _) | (with_reducible assumption) | omega | (simp; omega) | (simp; done)))⟩
        case measure => simp [intOf]; omega
      · obtain rfl : n = i := by omega
        have HB := Lib.hid hb; clear hb
        go_wp2
        go_ret
        exact ⟨rfl, HB.out⟩
  · obtain rfl : l = [] := List.length_eq_zero_iff.1 (by omega)
    obtain ⟨a1, c1, rfl⟩ := h1.empty
    obtain ⟨a2, c2, rfl⟩ := h2.empty
    clear h1 h2 h0 hl
    go_enter Try.func17, Try.ntmps17
    go_wp2_with fail
    go_loopw [13] (fun vi wr => vi = .int .i64 0 ∧ wr = w) (fun _ _ => 0)
    case atStart => exact ⟨rfl, rfl⟩
    case round =>
      obtain ⟨rfl, rfl⟩ := hrel
      go_wp2
      go_ret
      exact ⟨rfl, Below.refl _ _⟩
theorem big_yes (a0 a1 : Option Addr) (n0 c0 n1 c1 : Nat) (w : World) (h : ¬ n0 + n1 ≤ 1048576) :
    Calls Try.prog 5 #[.slice a0 n0 c0, .slice a1 n1 c1] w fun e w' => e = .returned (.bool true) ∧ w = w' := by
  by_cases h0 : 1048576 < n0
  · have h1 : (1048576 : Int) < (n0 : Int) := by omega
    go_enter Try.func5, Try.ntmps5
    go_wp2
    go_ret
    exact ⟨by first | rfl | simp [h1], by first | rfl | trivial⟩
  · have h1 : ¬ (1048576 : Int) < (n0 : Int) := by omega
    have h2 : (1048576 : Int) - (n0 : Int) < (n1 : Int) := by omega
    have hw : IntKind.i64.wrap (1048576 - (n0 : Int)) = 1048576 - (n0 : Int) := IntWalk.i64_in _ (by omega)
    go_enter Try.func5, Try.ntmps5
    go_wp2
    go_ret
    exact ⟨by first | rfl | simp [h2], by first | rfl | trivial⟩
set_option maxRecDepth 100000 in
set_option maxHeartbeats 4000000 in
/-- laws.FnDicksonsValues. -/
theorem walk_FnDicksonsValues (a0 : Option Addr) (n0 c0 : Nat) (z0 : List Int) (a1 : Option Addr) (n1 c1 : Nat) (z1 : List Int) (w : World) (h0 : IsRow .u8 w a0 n0 c0 z0) (h1 : IsRow .u8 w a1 n1 c1 z1) :
    Calls Try.prog 3 #[.slice a0 n0 c0, .slice a1 n1 c1] w fun e w' => e = .returned (.bool true) ∧ Below w.heap.size w w' := by
  by_cases hbg : n0 + n1 ≤ 1048576
  · have HBG := Lib.hid (big_no a0 a1 n0 c0 n1 c1 w hbg)
    have H0 := Lib.hid (h0.bys (by omega))
    have H1 := Lib.hid (h1.bys (by omega))
    have HBB : Hid (Below w.heap.size w w) := Lib.hid (Below.refl _ _)
    clear h0 h1 hbg
    go_enter Try.func3, Try.ntmps3
    go_wp2_with fail
    refine HBG.out.mono ?_
    rintro e _ ⟨rfl, rfl⟩
    clear HBG
    go_wp2_with fail
    refine (drawDicksonAt_any a0 n0 c0 _ H0.out).mono ?_
    rintro e w1 ⟨q, n, a, y, rfl, hb1⟩
    have HB1 : Hid (Below w.heap.size w w1) := Lib.hid (HBB.out.trans (hb1.mono HBB.out.size)); clear hb1
    obtain ⟨r, o, k1, k2, k3⟩ := ask_DicksonAt q n a y
    have K1 := Lib.hid k1; clear k1
    have K2 := Lib.hid k2; clear k2
    have K3 := Lib.hid k3; clear k3
    go_wp2_with fail
    refine (K2.out _).mono ?_
    rintro e w2 ⟨rfl, hb2⟩
    have HB2 : Hid (Below w.heap.size w w2) := Lib.hid (HB1.out.trans (hb2.mono HB1.out.size)); clear hb2
    go_wp2_with fail
    refine (K1.out _).mono ?_
    rintro e w3 ⟨rfl, hb3⟩
    have HB3 : Hid (Below w.heap.size w w3) := Lib.hid (HB2.out.trans (hb3.mono HB2.out.size)); clear hb3
    cases o with
    | false =>
      go_wp2_with fail
      refine (drawJoinDickson_any a1 n1 c1 _ (H1.out.below HB3.out)).mono ?_
      rintro e w4 ⟨q2, M, N, b2, rfl, hb4⟩
      have HB4 : Hid (Below w.heap.size w w4) := Lib.hid (HB3.out.trans (hb4.mono HB3.out.size)); clear hb4
      obtain ⟨r2, o2, hl2, j1, j2, j3⟩ := ask_JoinDickson q2 M N b2
      have J1 := Lib.hid j1; clear j1
      have J2 := Lib.hid j2; clear j2
      have J3 := Lib.hid j3; clear j3
      have HL := Lib.hid hl2; clear hl2
      go_wp2_with fail
      refine (J2.out _).mono ?_
      rintro e w5 ⟨v2, rfl, hr, hb5⟩
      have SA := Lib.hid hr.sl; clear hr
      have HB5 : Hid (Below w.heap.size w w5) := Lib.hid (HB4.out.trans (hb5.mono HB4.out.size)); clear hb5
      go_wp2_with fail
      refine (J1.out _).mono ?_
      rintro e w6 ⟨v3, rfl, hr, hb6⟩
      have SB := Lib.hid hr.sl; clear hr
      have SC := Lib.hid (SA.out.below hb6 (Nat.le_refl _)); clear SA
      have HB6 : Hid (Below w.heap.size w w6) := Lib.hid (HB5.out.trans (hb6.mono HB5.out.size)); clear hb6
      go_wp2_with fail
      refine (tSame_same v2 v3 r2 _ SC.out SB.out HL.out).mono ?_
      rintro e w7 ⟨rfl, hb7⟩
      have SD := Lib.hid (SC.out.below hb7 (Nat.le_refl _)); clear SC SB
      have HB7 : Hid (Below w.heap.size w w7) := Lib.hid (HB6.out.trans (hb7.mono HB6.out.size)); clear hb7
      cases o2 with
      | false =>
        go_wp2
        go_ret
        exact ⟨rfl, HB7.out⟩
      | true =>
        obtain ⟨hwr, jd⟩ := J3.out rfl
        have JD := Lib.hid jd; clear jd J3
        go_wp2_with fail
        refine (JD.out _).mono ?_
        rintro e w8 ⟨v5, rfl, hr, hb8⟩
        have SE := Lib.hid hr.sl; clear hr
        have SF := Lib.hid (SD.out.below hb8 (Nat.le_refl _)); clear SD
        have HB8 : Hid (Below w.heap.size w w8) := Lib.hid (HB7.out.trans (hb8.mono HB7.out.size)); clear hb8
        go_wp2_with fail
        refine (tSame_same v2 v5 r2 _ SF.out SE.out HL.out).mono ?_
        rintro e w9 ⟨rfl, hb9⟩
        have HB9 : Hid (Below w.heap.size w w9) := Lib.hid (HB8.out.trans (hb9.mono HB8.out.size)); clear hb9
        go_wp2
        go_ret
        exact ⟨rfl, HB9.out⟩
    | true =>
      obtain ⟨l, b, p, x, c1, c2, c3, c4, c5⟩ := K3.out rfl
      have C1 := Lib.hid c1; clear c1
      have C2 := Lib.hid c2; clear c2
      have C3 := Lib.hid c3; clear c3
      have C4 := Lib.hid c4; clear c4
      have C5 := Lib.hid c5; clear c5
      go_wp2_with fail
      refine (C1.out _).mono ?_
      rintro e w4 ⟨v, rfl, hr, hb4⟩
      have S0 := Lib.hid hr.sl; clear hr
      have HB4 : Hid (Below w.heap.size w w4) := Lib.hid (HB3.out.trans (hb4.mono HB3.out.size)); clear hb4
      go_wp2_with fail
      refine (C2.out _).mono ?_
      rintro e w5 ⟨rfl, hb5⟩
      have S1 := Lib.hid (S0.out.below hb5 (Nat.le_refl _)); clear S0
      have HB5 : Hid (Below w.heap.size w w5) := Lib.hid (HB4.out.trans (hb5.mono HB4.out.size)); clear hb5
      go_wp2_with fail
      refine (C3.out _).mono ?_
      rintro e w6 ⟨rfl, hb6⟩
      have S2 := Lib.hid (S1.out.below hb6 (Nat.le_refl _)); clear S1
      have HB6 : Hid (Below w.heap.size w w6) := Lib.hid (HB5.out.trans (hb6.mono HB5.out.size)); clear hb6
      go_wp2_with fail
      refine (C4.out _).mono ?_
      rintro e w7 ⟨rfl, hb7⟩
      have S3 := Lib.hid (S2.out.below hb7 (Nat.le_refl _)); clear S2
      have HB7 : Hid (Below w.heap.size w w7) := Lib.hid (HB6.out.trans (hb7.mono HB6.out.size)); clear hb7
      go_wp2_with fail
      refine (C5.out _ v S3.out).mono ?_
      rintro e w8 ⟨rfl, hb8⟩
      have HB8 : Hid (Below w.heap.size w w8) := Lib.hid (HB7.out.trans (hb8.mono HB7.out.size)); clear hb8
      go_wp2_with fail
      refine (drawJoinDickson_any a1 n1 c1 _ (H1.out.below HB8.out)).mono ?_
      rintro e w9 ⟨q2, M, N, b2, rfl, hb9⟩
      have HB9 : Hid (Below w.heap.size w w9) := Lib.hid (HB8.out.trans (hb9.mono HB8.out.size)); clear hb9
      obtain ⟨r2, o2, hl2, j1, j2, j3⟩ := ask_JoinDickson q2 M N b2
      have J1 := Lib.hid j1; clear j1
      have J2 := Lib.hid j2; clear j2
      have J3 := Lib.hid j3; clear j3
      have HL := Lib.hid hl2; clear hl2
      go_wp2_with fail
      refine (J2.out _).mono ?_
      rintro e w10 ⟨v2, rfl, hr, hb10⟩
      have SA := Lib.hid hr.sl; clear hr
      have HB10 : Hid (Below w.heap.size w w10) := Lib.hid (HB9.out.trans (hb10.mono HB9.out.size)); clear hb10
      go_wp2_with fail
      refine (J1.out _).mono ?_
      rintro e w11 ⟨v3, rfl, hr, hb11⟩
      have SB := Lib.hid hr.sl; clear hr
      have SC := Lib.hid (SA.out.below hb11 (Nat.le_refl _)); clear SA
      have HB11 : Hid (Below w.heap.size w w11) := Lib.hid (HB10.out.trans (hb11.mono HB10.out.size)); clear hb11
      go_wp2_with fail
      refine (tSame_same v2 v3 r2 _ SC.out SB.out HL.out).mono ?_
      rintro e w12 ⟨rfl, hb12⟩
      have SD := Lib.hid (SC.out.below hb12 (Nat.le_refl _)); clear SC SB
      have HB12 : Hid (Below w.heap.size w w12) := Lib.hid (HB11.out.trans (hb12.mono HB11.out.size)); clear hb12
      cases o2 with
      | false =>
        go_wp2
        go_ret
        exact ⟨rfl, HB12.out⟩
      | true =>
        obtain ⟨hwr, jd⟩ := J3.out rfl
        have JD := Lib.hid jd; clear jd J3
        go_wp2_with fail
        refine (JD.out _).mono ?_
        rintro e w13 ⟨v5, rfl, hr, hb13⟩
        have SE := Lib.hid hr.sl; clear hr
        have SF := Lib.hid (SD.out.below hb13 (Nat.le_refl _)); clear SD
        have HB13 : Hid (Below w.heap.size w w13) := Lib.hid (HB12.out.trans (hb13.mono HB12.out.size)); clear hb13
        go_wp2_with fail
        refine (tSame_same v2 v5 r2 _ SF.out SE.out HL.out).mono ?_
        rintro e w14 ⟨rfl, hb14⟩
        have HB14 : Hid (Below w.heap.size w w14) := Lib.hid (HB13.out.trans (hb14.mono HB13.out.size)); clear hb14
        go_wp2
        go_ret
        exact ⟨rfl, HB14.out⟩
  · have HBG := Lib.hid (big_yes a0 a1 n0 c0 n1 c1 w hbg)
    clear h0 h1 hbg
    go_enter Try.func3, Try.ntmps3
    go_wp2_with fail
    refine HBG.out.mono ?_
    rintro e _ ⟨rfl, rfl⟩
    go_wp2
    go_ret
    exact ⟨rfl, Below.refl _ _⟩
end Go.Proofs.Yteclpkicebdfpaa
