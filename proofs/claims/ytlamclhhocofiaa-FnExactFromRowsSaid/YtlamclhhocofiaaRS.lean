/- spec.FromRows; rows of digits as the program checks them. -/
import Derived.Test.YtlamclhhocofiaaLJ
import Derived.Test.YtlamclhhocofiaaRR
namespace Go.Proofs.Ytlamclhhocofiaa
open Go.RowKit
theorem spec_FromRows_no (q : Int) (v : Value) (w : World) (h : isSz q = false) :
    Calls Try.prog 31 #[.int .i64 q, v] w fun e w' => e = .returned (.tuple #[.slice none 0 0, .bool false]) ∧ Below w.heap.size w w' := by
  have HS := Lib.hid (fdSize_any q w)
  rw [h] at HS
  clear h
  go_enter Try.func31, Try.ntmps31
  go_wp2_with fail
  refine HS.out.mono ?_
  rintro e w1 ⟨rfl, hb1⟩
  go_wp2
  go_ret2
  exact ⟨rfl, hb1⟩
theorem rws_all {q : Int} {n : Nat} {F : Nat → List Int} (h : rws q n F = true) : ∀ i, i < n → rwo q (F i) = true := by
  simp only [rws, Bool.and_eq_true, List.all_eq_true, List.mem_range] at h
  exact h.2
theorem rws_of {q : Int} {n : Nat} {F : Nat → List Int} (e : n = plN q) (h : ∀ i, i < n → rwo q (F i) = true) : rws q n F = true := by
  simp only [rws, Bool.and_eq_true, List.all_eq_true, List.mem_range, beq_iff_eq]
  exact ⟨e, h⟩
theorem rws_off {q : Int} {n i : Nat} {F : Nat → List Int} (hi : i < n) (h : rwo q (F i) = false) : rws q n F = false := by
  cases hr : rws q n F with
  | false => rfl
  | true => rw [rws_all hr i hi] at h; cases h
theorem rws_ne {q : Int} {n : Nat} {F : Nat → List Int} (h : n ≠ plN q) : rws q n F = false := by
  cases hr : rws q n F with
  | false => rfl
  | true => exact absurd (rws_parts hr).1 h
set_option maxRecDepth 100000 in
set_option maxHeartbeats 4000000 in
/-- spec.FromRows. -/
theorem spec_FromRows_any (m n B : Nat) (v : Value) (F : Nat → List Int) (X : Nat → Value) (w : World) (h : isSz (m : Int) = true) (hv : RS w B v n F X) (hn : n ≤ 1048576) (hl : ∀ i, i < n → (F i).length ≤ 1048576) :
    Calls Try.prog 31 #[.int .i64 m, v] w fun e w' => ∃ v', e = .returned (.tuple #[v', .bool (rws m n F)]) ∧ (rws m n F = true → Row w' w.heap.size v' (ftl m (frT m F))) ∧ (rws m n F = false → v' = .slice none 0 0) ∧ Below w.heap.size w w' := by
  have hq := isSz_le (m : Int) h
  have hkb := plN_bd (m : Int) h
  have hp := pr_bd (m : Int) h
  have hpl : pl (m : Int) = ((plN (m : Int) : Nat) : Int) := rfl
  have HS := Lib.hid (fdSize_any (m : Int) w)
  rw [h] at HS
  have HPR := Lib.hid (fun w => fdPrime_any (m : Int) w h)
  rw [hpl] at HPR
  obtain ⟨a, cap, rfl⟩ := hv.slc
  by_cases hnk : n = plN (m : Int)
  · have HNE := Lib.hid (fun i hi (h : rwo (m : Int) (F i) = false) => rws_off (n := n) hi h)
    have HYE := Lib.hid (fun (h : ∀ i, i < n → rwo (m : Int) (F i) = true) => rws_of hnk h)
    have HRW : Hid (∀ i, rwo (m : Int) (F i) = (((F i).length == n) && (F i).all (inF (pr m)))) := Lib.hid fun i => by rw [hnk]; rfl
    have HAL := Lib.hid (fun (v : Value) (l : List Int) (w : World) (hs : Sl w v l) (hl : l.length ≤ 1048576) => by
      have := l1All_any v l 0 (pr (m : Int) - 1) w hs hl
      rw [all_inF] at this
      exact this)
    have HAD := Lib.hid (fun w (hw : RS w B (.slice a n cap) n F X) hr => adFromRows_any m n B (.slice a n cap) F X w h hw hr)
    have HPF := Lib.hid (fun v w (hr : rws (m : Int) n F = true) (hs : Sl w v (fl (frT m F) m)) => plFromT m v (frT m F) w h hs (fun x _ => frT_el h hr x))
    rw [← hnk] at HPR hkb
    have HR0 := Lib.hid hv
    have HLL := Lib.hid hl
    obtain ⟨g0, cap0, hvv, hgB, hg0, _⟩ := hv.form (by omega)
    cases hvv
    have HCE : Hid (∀ wr, RS wr B (.slice (some ⟨g0, 0, none⟩) n cap) n F X → ∀ i, i < n → wr.cell? ⟨g0, i, none⟩ = some (X i)) := Lib.hid fun wr hrs i hi => by
      obtain ⟨g', cp', e', _, _, hc⟩ := hrs.form (by omega)
      cases e'
      exact hc i hi
    clear hv hl hnk hpl h
    have hw1 : IntKind.i64.wrap (pr (m : Int) - 1) = pr (m : Int) - 1 := IntWalk.i64_in _ (by omega)
    generalize pr (m : Int) = p at *
    go_enter Try.func31, Try.ntmps31
    go_wp2_with fail
    refine HS.out.mono ?_
    rintro e w1 ⟨rfl, hb1⟩
    have HR1 := Lib.hid (HR0.out.below hb1)
    have HB1 := Lib.hid hb1; clear hb1
    clear HS HR0
    go_wp2_with fail
    refine (HPR.out _).mono ?_
    rintro e _ ⟨rfl, rfl⟩
    have h4 : ¬ (4 < (n : Int)) := by omega
    go_wp2_with fail
    go_loopw [28] (fun vi wr => ∃ i : Nat, i ≤ n ∧ vi = .int .i64 i ∧ (∀ j, j < i → rwo (m : Int) (F j) = true) ∧ wr = w1) (fun vi _ => n - (intOf vi).toNat)
    case atStart => exact ⟨0, Nat.zero_le _, rfl, fun j hj => absurd hj (Nat.not_lt_zero _), rfl⟩
    case round =>
      obtain ⟨i, hi, rfl, hall, rfl⟩ := hrel
      have HALL := Lib.hid hall; clear hall
      by_cases hlt : i < n
      · have hci := HCE.out _ HR1.out i hlt
        have hsl := (HR1.out.inner i hlt).sl
        have HA1 := Lib.hid (HAL.out (X i) (F i) wr hsl (HLL.out i hlt))
        have HRW1 := HRW.out i
        obtain ⟨ax, cx, ex⟩ := hsl.form
        clear hsl
        rw [ex] at hci HA1
        cases hro : rwo (m : Int) (F i) with
        | false =>
          have HOFF := Lib.hid (HNE.out i hlt hro)
          rw [hro] at HRW1
          have hb1 := HB1.out
          by_cases hle : (F i).length = n
          · have hal : (F i).all (inF p) = false := by
              rw [hle] at HRW1
              simpa using HRW1.symm
            rw [hal] at HA1
            have hne := eq_int hle
            clear hal HRW1 hro ex hle
            generalize (F i).length = lf at *
            go_wp2_with fail
            refine HA1.out.mono ?_
            rintro e _ ⟨rfl, rfl⟩
            go_wp2
            go_ret2
            rw [HOFF.out]
            exact ⟨_, rfl, (fun h => by cases h), (fun _ => rfl), hb1⟩
          · have hne := ne_int hle
            clear HRW1 hro ex hle HA1
            generalize (F i).length = lf at *
            go_wp2
            go_ret2
            rw [HOFF.out]
            exact ⟨_, rfl, (fun h => by cases h), (fun _ => rfl), hb1⟩
        | true =>
          rw [hro] at HRW1
          have hle : (F i).length = n ∧ (F i).all (inF p) = true := by simpa using HRW1.symm
          rw [hle.2] at HA1
          have hne := eq_int hle.1
          have HALL2 : Hid (∀ j, j < i + 1 → rwo (m : Int) (F j) = true) := Lib.hid fun j hj => by
            by_cases e : j = i
            · rw [e]; exact hro
            · exact HALL.out j (by omega)
          clear HRW1 hro ex hle
          generalize (F i).length = lf at *
          go_wp2_with fail
          refine HA1.out.mono ?_
          rintro e _ ⟨rfl, rfl⟩
          go_wp2
          go_roundw
          case rel => exact ⟨i + 1, by omega, by go_num, HALL2.out, by first | rfl | trivial⟩
          case measure => simp [intOf]; omega
      · obtain rfl : n = i := by omega
        have HON := Lib.hid (HYE.out HALL.out)
        have HA1 := Lib.hid (HAD.out wr HR1.out HON.out)
        go_wp2_with fail
        refine HA1.out.mono ?_
        rintro e w2 ⟨v2, rfl, hr2, hb2⟩
        have HR2 := Lib.hid hr2
        have HB2 := Lib.hid hb2
        clear hr2 hb2
        have hz1 := HB1.out.size
        go_wp2_with fail
        refine (HPF.out _ _ HON.out HR2.out.sl).mono ?_
        rintro e w3 ⟨v3, rfl, hr3, hb3⟩
        have hz2 := HB2.out.size
        have HR3 := Lib.hid hr3
        have HB3 := Lib.hid hb3
        clear hr3 hb3
        go_wp2
        go_ret2
        rw [HON.out]
        exact ⟨_, rfl, (fun _ => HR3.out.mono (by omega)), (fun h => by cases h), (HB1.out.trans (HB2.out.mono hz1)).trans (HB3.out.mono (by omega))⟩
  · have hoff := rws_ne (F := F) hnk
    rw [hoff]
    have hne := ne_int hnk
    clear hv hl hoff hpl hnk
    generalize plN (m : Int) = k at *
    go_enter Try.func31, Try.ntmps31
    go_wp2_with fail
    refine HS.out.mono ?_
    rintro e w1 ⟨rfl, hb1⟩
    have HB1 := Lib.hid hb1; clear hb1
    go_wp2_with fail
    refine (HPR.out _).mono ?_
    rintro e _ ⟨rfl, rfl⟩
    go_wp2
    go_ret2
    exact ⟨_, rfl, (fun h => by cases h), (fun _ => rfl), HB1.out⟩
end Go.Proofs.Ytlamclhhocofiaa
