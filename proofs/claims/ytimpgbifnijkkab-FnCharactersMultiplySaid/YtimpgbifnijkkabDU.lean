/- What the general law FnCharactersMultiply asks: characters, points, by contracts (gen du.py). -/
import Derived.Test.YtimpgbifnijkkabDP
import Derived.Test.YtimpgbifnijkkabDQ
import Derived.Test.YtimpgbifnijkkabTW
import Derived.Test.YtimpgbifnijkkabKL
import Derived.Test.YtimpgbifnijkkabKI
import Derived.Test.YtimpgbifnijkkabKH
import Derived.Test.YtimpgbifnijkkabKG
import Derived.Test.YtimpgbifnijkkabKR
namespace Go.Proofs.Ytimpgbifnijkkab
open Go.RowKit
set_option maxHeartbeats 2000000 in
/-- impl.field.numbersWhere at impl.element.isSquare. -/
theorem numbersWhere_isSquare (q : Int) (w : World) (h : isSz q = true) :
    Calls Try.prog 66 #[fdE q, .func (.func 67) #[] #[]] w fun e w' => ∃ v, e = .returned v ∧ Row w' w.heap.size v (wh (isSqN q) q.toNat) ∧ Below w.heap.size w w' := by
  obtain ⟨i0, hi, iz0, iz1, iz2⟩ := info_parts Try.infoI
  have hq := isSz_le q h
  have HE := Lib.hid (fun w => elements_any q w h)
  have HX := Lib.hid (fun (n : Nat) w (hn : (n : Int) < q) => isSquareA q n  w h hn )
  have hzz : ∀ n, wh (isSqN q) n = wh (isSqN q) n := fun _ => rfl
  clear hzz
  obtain ⟨m, hm⟩ := Int.eq_ofNat_of_zero_le (show 0 ≤ q by omega)
  subst hm
  rw [Int.toNat_natCast] at HE ⊢
  generalize hP : (isSqN (m : Int)) = P at *
  clear hP h
  go_enter Try.func66, Try.ntmps66
  go_wp2_with fail
  refine (HE.out _).mono ?_
  rintro e w3 ⟨g, cp, rfl, hg, hkb, hel, hb3⟩
  simp at hg
  have hgl := hkb.lt
  have hb : Below w.heap.size w w3 := by (repeat' (first | (with_reducible assumption) | (with_reducible exact Below.refl _ _) | (with_reducible refine below_drewN ?_ _) | (with_reducible refine Below.drew ?_) | (with_reducible refine Below.alloc ?_ ?_ _) | (with_reducible refine Below.setCell ?_ ?_ _) | (with_reducible refine Below.trans ?_ (Below.mono (by assumption) ?_)) | (with_reducible exact Nat.le_refl _) | (with_reducible assumption) | omega | (simp; omega) | (simp; done)))
  have HK3 := Lib.hid hkb
  have HL3 := Lib.hid hel
  have HB3 := Lib.hid hb
  have hz3 := hb.size
  clear hkb hel hb hb3
  go_wp2_with fail
  go_loopw [5, 11] (fun vo vi wr => ∃ i : Nat, i ≤ m ∧ vi = .int .i64 i ∧ Row wr w3.heap.size vo (wh P i) ∧ Below w3.heap.size w3 wr) (fun _ vi _ => m - (intOf vi).toNat)
  case atStart => exact ⟨0, Nat.zero_le _, rfl, Row.nil _ _, Below.refl _ _⟩
  case round =>
    obtain ⟨i, hi', rfl, hr, hbw⟩ := hrel
    have hz := hbw.size
    have HL := Lib.hid (wh_len P i)
    by_cases hlt : i < m
    · obtain ⟨c0, c1, c2, c3, c4, c5, c6⟩ := (HL3.out.below hbw hgl) i hlt
      have hgr : g < wr.heap.size := by omega
      have hnq : (i : Int) < (m : Int) := by omega
      have HR := Lib.hid hr; clear hr
      have HBW := Lib.hid hbw; clear hbw
      have HX' := Lib.hid (fun w => HX.out i w hnq)
      cases hp : P i with
      | true =>
        rw [hp] at HX'
        have HS := Lib.hid (wh_yes P i hp); clear hp
        go_wp2_with fail
        refine (HX'.out _).mono ?_
        rintro e w5 ⟨rfl, hb5⟩
        have hz_hb5 := hb5.size; (try simp at hz_hb5)
        have HR5 := Lib.hid ((HR.out.alloc (eblk (m : Int) (i : Int))).below hb5)
        have HB5 : Hid (Below wr.heap.size wr w5) := Lib.hid (by (repeat' (first | (with_reducible assumption) | (with_reducible exact Below.refl _ _) | (with_reducible refine below_drewN ?_ _) | (with_reducible refine Below.drew ?_) | (with_reducible refine Below.alloc ?_ ?_ _) | (with_reducible refine Below.setCell ?_ ?_ _) | (with_reducible refine Below.trans ?_ (Below.mono (by assumption) ?_)) | (with_reducible exact Nat.le_refl _) | (with_reducible assumption) | omega | (simp; omega) | (simp; done))))
        clear hb5
        go_wp2_with (at_builtin; refine wpList_append_own _ rfl _ _ 25 rfl w3.heap.size 3 i0 (.int .i64 0) 1 8 Try.underlying25 hi iz0 iz1 iz2 rfl (by decide) _ _ _ rfl (World.ownsRow.alloc HR5.out _) ⟨w5.heap.size, 0, none⟩ 1 1 [.int .i64 i] rfl rfl ?c1 ?c2 ?c3 ?c4 ?c5 ?_)
        case c1 => exact cell_one_new _ _ _
        case c2 => intro u hu; simp at hu; subst hu; rfl
        case c3 => have := HL.out; unfold maxLen; omega
        case c4 => have := HL.out; omega
        case c5 => simp; omega
        intro v' w6 hown hgrow _
        have HR6 := Lib.hid (Row.appended hown)
        have hb : Below w3.heap.size w3 (w5.alloc (.cells #[.int .i64 i] 3)) := (HBW.out.trans (HB5.out.mono hz)).alloc (by omega) _
        have HB6 := Lib.hid (hb.grown hgrow (by simp; omega) (fun g hg => (HR5.out.lt g hg).1))
        clear hown hgrow hb
        go_wp2
        go_roundw
        case rel => exact ⟨i + 1, by omega, by go_num, by rw [HS.out]; exact HR6.out, HB6.out⟩
        case measure => simp [intOf]; omega
      | false =>
        rw [hp] at HX'
        have HS := Lib.hid (wh_no P i hp); clear hp
        go_wp2_with fail
        refine (HX'.out _).mono ?_
        rintro e w5 ⟨rfl, hb5⟩
        have hz_hb5 := hb5.size; (try simp at hz_hb5)
        have HR5 := Lib.hid ((HR.out.alloc (eblk (m : Int) (i : Int))).below hb5)
        have HB5 : Hid (Below wr.heap.size wr w5) := Lib.hid (by (repeat' (first | (with_reducible assumption) | (with_reducible exact Below.refl _ _) | (with_reducible refine below_drewN ?_ _) | (with_reducible refine Below.drew ?_) | (with_reducible refine Below.alloc ?_ ?_ _) | (with_reducible refine Below.setCell ?_ ?_ _) | (with_reducible refine Below.trans ?_ (Below.mono (by assumption) ?_)) | (with_reducible exact Nat.le_refl _) | (with_reducible assumption) | omega | (simp; omega) | (simp; done))))
        clear hb5
        go_wp2
        go_roundw
        case rel => exact ⟨i + 1, by omega, by go_num, by rw [HS.out]; exact HR5.out, HBW.out.trans (HB5.out.mono hz)⟩
        case measure => simp [intOf]; omega
    · obtain rfl : m = i := by omega
      have HR := Lib.hid hr; clear hr
      have HBW := Lib.hid hbw; clear hbw
      go_wp2
      go_ret
      exact ⟨_, rfl, HR.out.mono hz3, HB3.out.trans (HBW.out.mono hz3)⟩
set_option maxHeartbeats 1000000 in
theorem impl_SquaresOf_yes (q : Int) (w : World) (h : isSz q = true) :
    Calls Try.prog 28 #[.int .i64 q] w fun e w' => ∃ v, e = .returned (.tuple #[v, .bool true]) ∧ Row w' w.heap.size v (wh (isSqN q) q.toNat) ∧ Below w.heap.size w w' := by
  have HF := Lib.hid (fun w => fieldOf_yes q w h)
  have HN := Lib.hid (fun w => numbersWhere_isSquare q w h)
  clear h
  go_enter Try.func28, Try.ntmps28
  go_wp2_with fail
  refine (HF.out _).mono ?_
  rintro e w1 ⟨rfl, hb1⟩
  have hz_hb1 := hb1.size; (try simp at hz_hb1)
  have HB1 := Lib.hid hb1; clear hb1
  go_wp2_with fail
  refine (HN.out _).mono ?_
  rintro e w2 ⟨v, rfl, hr, hb2⟩
  have hz_hb2 := hb2.size; (try simp at hz_hb2)
  have HR := Lib.hid hr; clear hr
  have HB2 := Lib.hid hb2; clear hb2
  go_wp2
  go_ret2
  have hb1 := HB1.out
  have hb2 := HB2.out
  exact ⟨_, rfl, HR.out.mono (by simp; omega), by (repeat' (first | (with_reducible assumption) | (with_reducible exact Below.refl _ _) | (with_reducible refine below_drewN ?_ _) | (with_reducible refine Below.drew ?_) | (with_reducible refine Below.alloc ?_ ?_ _) | (with_reducible refine Below.setCell ?_ ?_ _) | (with_reducible refine Below.trans ?_ (Below.mono (by assumption) ?_)) | (with_reducible exact Nat.le_refl _) | (with_reducible assumption) | omega | (simp; omega) | (simp; done)))⟩
theorem inE_ofD {q x : Int} (h : isSz q = true) (hx : El q x) : inE q x = true := by
  simp [inE, h, hx.1, hx.2]
theorem sq_mem {m A : Nat} (hA : A < m) : decide ((A : Int) ∈ wh (isSqN (m : Int)) m) = isSq (m : Int) (A : Int) := by
  cases hs : isSq (m : Int) (A : Int) with
  | true => exact decide_eq_true (List.mem_map.2 ⟨A, List.mem_filter.2 ⟨List.mem_range.2 hA, hs⟩, rfl⟩)
  | false =>
    refine decide_eq_false fun hm => ?_
    obtain ⟨B, hB, e⟩ := List.mem_map.1 hm
    obtain rfl : B = A := by omega
    have := (List.mem_filter.1 hB).2
    unfold isSqN at this
    rw [hs] at this
    exact Bool.false_ne_true this
/-- What the law asks of CharacterOf. -/
theorem ask_Char (q a : Int) : ∃ (x : Int) (o : Bool),
    (∀ w, Calls Try.prog 25 #[.int .i64 q, .int .i64 a] w fun e w' => e = .returned (.tuple #[.int .i64 x, .bool o]) ∧ Below w.heap.size w w') ∧
    (∀ w, Calls Try.prog 26 #[.int .i64 q, .int .i64 a] w fun e w' => e = .returned (.tuple #[.int .i64 x, .bool o]) ∧ Below w.heap.size w w') ∧
    (o = true → ∃ (m : Nat) (Y P : Nat → Int) (l : List Int), q = (m : Int) ∧ m ≤ 16 ∧ (-1 ≤ x ∧ x ≤ 1) ∧ (∀ b, -1 ≤ Y b ∧ Y b ≤ 1) ∧ csm Y m = 0 ∧ l.length ≤ 1048576 ∧
      (∀ (b : Nat) w, b < m → Calls Try.prog 25 #[.int .i64 q, .int .i64 (b : Int)] w fun e w' => e = .returned (.tuple #[.int .i64 (Y b), .bool true]) ∧ Below w.heap.size w w') ∧
      (∀ (b : Nat) w, b < m → Calls Try.prog 27 #[.int .i64 q, .int .i64 a, .int .i64 (b : Int)] w fun e w' => e = .returned (.tuple #[.int .i64 (P b), .bool true]) ∧ Below w.heap.size w w') ∧
      (∀ (b : Nat) w, b < m → Calls Try.prog 25 #[.int .i64 q, .int .i64 (P b)] w fun e w' => e = .returned (.tuple #[.int .i64 (x * Y b), .bool true]) ∧ Below w.heap.size w w') ∧
      (∀ w, Calls Try.prog 28 #[.int .i64 q] w fun e w' => ∃ v, e = .returned (.tuple #[v, .bool true]) ∧ Row w' w.heap.size v l ∧ Below w.heap.size w w') ∧
      decide (a ∈ l) = decide (0 ≤ x)) := by
  cases hd : ode q a with
  | false => exact ⟨0, false, fun w => impl_CharacterOf_no q a w hd, fun w => spec_CharacterOf_no q a w hd, fun e => by cases e⟩
  | true =>
    obtain ⟨m, rfl, h, ho, ha⟩ := ode_nat hd
    have hq := isSz_le (m : Int) h
    have ea := inE_el ha
    refine ⟨chi m a, true, fun w => impl_CharacterOf_yes m a w h ho ha, fun w => spec_CharacterOf_yes m a w h ho ha, fun _ => ⟨m, fun b => chi m (b : Int), fun b => mulF m a (b : Int), wh (isSqN (m : Int)) m, rfl, by omega, chi_bd _ _, fun b => chi_bd _ _, chi_all h ho, by have := wh_len (isSqN (m : Int)) m; omega, fun b w hb => ?_, fun b w hb => ?_, fun b w hb => ?_, fun w => ?_, ?_⟩⟩
    · exact impl_CharacterOf_yes m _ w h ho (inE_ofD h (El.nat hb))
    · exact impl_TimesOf_yes m a _ w ha (inE_ofD h (El.nat hb))
    · have := impl_CharacterOf_yes m (mulF m a (b : Int)) w h ho (inE_ofD h (ea.mul h (El.nat hb)))
      rw [chi_times h ho ea (El.nat hb)] at this
      exact this
    · have := impl_SquaresOf_yes (m : Int) w h
      rw [Int.toNat_natCast] at this
      exact this
    · obtain ⟨A, rfl⟩ := Int.eq_ofNat_of_zero_le ea.1
      rw [sq_mem (by have := ea.2; omega), chi_sq h ho ea]
/-- What the law asks of CountPoints and the like. -/
theorem ask_Points (q : Int) (l : List Int) (hl : l.length ≤ 1048576) : ∃ (s t u : Int) (n : Nat) (F : Nat → List Int) (o : Bool), n ≤ 1048576 ∧ (∀ i, i < n → (F i).length ≤ 1048576) ∧
    (∀ w v, Sl w v l → Calls Try.prog 31 #[.int .i64 q, v] w fun e w' => e = .returned (.tuple #[.int .i64 s, .bool o]) ∧ Below w.heap.size w w') ∧
    (∀ w v, Sl w v l → Calls Try.prog 32 #[.int .i64 q, v] w fun e w' => e = .returned (.tuple #[.int .i64 s, .bool o]) ∧ Below w.heap.size w w') ∧
    (∀ w v, Sl w v l → Calls Try.prog 33 #[.int .i64 q, v] w fun e w' => ∃ v' X, e = .returned (.tuple #[v', .bool o]) ∧ RS w' w.heap.size v' n F X ∧ Below w.heap.size w w') ∧
    (∀ w v, Sl w v l → Calls Try.prog 34 #[.int .i64 q, v] w fun e w' => ∃ v' X, e = .returned (.tuple #[v', .bool o]) ∧ RS w' w.heap.size v' n F X ∧ Below w.heap.size w w') ∧
    (∀ w v, Sl w v l → Calls Try.prog 35 #[.int .i64 q, v] w fun e w' => e = .returned (.tuple #[.int .i64 t, .bool o]) ∧ Below w.heap.size w w') ∧
    (∀ w v, Sl w v l → Calls Try.prog 36 #[.int .i64 q, v] w fun e w' => e = .returned (.tuple #[.int .i64 t, .bool o]) ∧ Below w.heap.size w w') ∧
    (∀ w v, Sl w v l → Calls Try.prog 37 #[.int .i64 q, v] w fun e w' => e = .returned (.tuple #[.int .i64 u, .bool o]) ∧ Below w.heap.size w w') ∧
    (∀ w v, Sl w v l → Calls Try.prog 38 #[.int .i64 q, v] w fun e w' => e = .returned (.tuple #[.int .i64 u, .bool o]) ∧ Below w.heap.size w w') ∧
    (o = true → s = q + u ∧ (n : Int) = s ∧ s + t = 2 * q ∧ 0 ≤ q ∧ q ≤ 16 ∧ -16 ≤ u ∧ u ≤ 16 ∧ n ≤ 256 ∧ ∃ X Y Z : Nat → Int, ∀ i, i < n → F i = [X i, Y i] ∧
      (∀ w, Calls Try.prog 27 #[.int .i64 q, .int .i64 (Y i), .int .i64 (Y i)] w fun e w' => e = .returned (.tuple #[.int .i64 (Z i), .bool true]) ∧ Below w.heap.size w w') ∧
      (∀ w v, Sl w v l → Calls Try.prog 40 #[.int .i64 q, v, .int .i64 (X i)] w fun e w' => e = .returned (.tuple #[.int .i64 (Z i), .bool true]) ∧ Below w.heap.size w w') ∧
      (∀ j, j + 1 = i → X j < X i ∨ (X j = X i ∧ Y j < Y i))) := by
  cases hd : ota q l with
  | false =>
    exact ⟨0, 0, 0, 0, fun _ => [], false, by omega, by simp, fun w v hv => impl_CountPoints_no q v l w hv hl hd, fun w v hv => spec_CountPoints_no q v l w hv hl hd,
      fun w v hv => (impl_PointsOf_no q v l w hv hl hd).mono fun _ _ ⟨he, hb⟩ => ⟨_, fun _ => .slice none 0 0, he, RS.nil _ _ _ _, hb⟩, fun w v hv => (spec_PointsOf_no q v l w hv hl hd).mono fun _ _ ⟨he, hb⟩ => ⟨_, fun _ => .slice none 0 0, he, RS.nil _ _ _ _, hb⟩,
      fun w v hv => impl_TwistPoints_no q v l w hv hl hd, fun w v hv => spec_TwistPoints_no q v l w hv hl hd, fun w v hv => impl_CharacterSum_no q v l w hv hl hd, fun w v hv => spec_CharacterSum_no q v l w hv hl hd, fun e => by cases e⟩
  | true =>
    obtain ⟨m, rfl, h, ho, hg⟩ := ota_nat hd
    have hq := isSz_le (m : Int) h
    have ht : ∀ i, i < m → El (m : Int) (tbo m l i) := fun i hi => tbo_el h hg i hi
    have hu := chs_bd m (tbo m l)
    have hlen := pts_len (m := m) (t := tbo m l) (by omega) m
    have hcount := pts_chi h ho (t := tbo m l) m ht
    have hon := pts_on (m := m) (t := tbo m l) m (Nat.le_refl _)
    have hsort := List.pairwise_iff_getElem.1 (pts_sorted (m := m) (t := tbo m l) m (Nat.le_refl _))
    have hmem : ∀ i, i < (pts m (tbo m l) m).length → PtOn m (tbo m l) (FLP (pts m (tbo m l) m) i) := fun i hi => by
      have e : FLP (pts m (tbo m l) m) i = (pts m (tbo m l) m)[i] := by simp [FLP, List.getD, hi]
      rw [e]
      exact (hon _ (List.getElem_mem hi)).1
    refine ⟨(m : Int) + chs m (tbo m l), tws m (tbo m l), chs m (tbo m l), (pts m (tbo m l) m).length, FLP (pts m (tbo m l) m), true, by omega, fun i hi => ?_, fun w v hv => impl_CountPoints_yes m v l w h ho hv hg, fun w v hv => spec_CountPoints_yes m v l w h ho hv hg,
      fun w v hv => impl_PointsOf_yes m v l w h ho hv hg, fun w v hv => spec_PointsOf_yes m v l w h ho hv hg, fun w v hv => impl_TwistPoints_yes m v l w h ho hv hg, fun w v hv => spec_TwistPoints_yes m v l w h ho hv hg, fun w v hv => impl_CharacterSum_yes m v l w h ho hv hg, fun w v hv => spec_CharacterSum_yes m v l w h ho hv hg, fun _ => ?_⟩
    · obtain ⟨x, y, e, _⟩ := hmem i hi
      rw [e]
      simp
    · refine ⟨rfl, hcount, by unfold tws; omega, by omega, by omega, by omega, by omega, by omega, fun i => (FLP (pts m (tbo m l) m) i).getD 0 0, fun i => (FLP (pts m (tbo m l) m) i).getD 1 0, fun i => tbo m l ((FLP (pts m (tbo m l) m) i).getD 0 0).toNat, fun i hi => ?_⟩
      obtain ⟨x, y, e, hx, hy, hxy⟩ := hmem i hi
      dsimp only
      rw [e]
      refine ⟨rfl, fun w => ?_, fun w v hv => ?_, fun j hj => ?_⟩
      · have := impl_TimesOf_yes (m : Int) (y : Int) (y : Int) w (inE_ofD h (El.nat hy)) (inE_ofD h (El.nat hy))
        rw [hxy] at this
        exact this
      · exact impl_ValueAt_yes (m : Int) (x : Int) v l w hv h hg (inE_ofD h (El.nat hx))
      · rw [← e]
        have hj' : j < (pts m (tbo m l) m).length := by omega
        have e1 : FLP (pts m (tbo m l) m) i = (pts m (tbo m l) m)[i] := by simp [FLP, List.getD, hi]
        have e2 : FLP (pts m (tbo m l) m) j = (pts m (tbo m l) m)[j] := by simp [FLP, List.getD, hj']
        rw [e1, e2]
        exact hsort j i hj' hi (by omega)
end Go.Proofs.Ytimpgbifnijkkab
