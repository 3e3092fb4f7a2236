/- laws.big by a contract; the walk of the law FnAllPermutingCounted. -/
import Derived.Test.YtnmdcmbcackchabML
namespace Go.Proofs.Ytnmdcmbcackchab
open Go.RowKit
theorem big_any (a0 a1 : Option Addr) (n0 c0 n1 c1 : Nat) (w : World) :
    Calls Try.prog 26 #[.slice a0 n0 c0, .slice a1 n1 c1] w fun e w' => e = .returned (.bool (decide ((1048576 : Int) < (n0 : Int)) || decide ((1048576 : Int) - (n0 : Int) < (n1 : Int)))) ∧ w = w' := by
  by_cases h : 1048576 < n0
  · have h' : (1048576 : Int) < (n0 : Int) := by omega
    rw [decide_eq_true h']
    go_enter Try.func26, Try.ntmps26
    go_wp2
    go_ret
    exact ⟨rfl, rfl⟩
  · have h' : (n0 : Int) ≤ 1048576 := by omega
    go_enter Try.func26, Try.ntmps26
    go_wp2
    go_ret
    exact ⟨rfl, rfl⟩
/-- The product of the numbers up to one. -/
def fcN : Nat → Nat
  | 0 => 1
  | n + 1 => fcN n * (n + 1)
/-- How many permute, of the degrees up to one. -/
def csN (q : Nat) : Nat → Nat
  | 0 => 0
  | d + 1 => csN q d + zcl q (d + 1) (d + 1) 0 * (q - 1) * q
theorem cs_fc : ∀ q ∈ [2, 3, 4, 5], csN q (q - 1) = fcN q ∧ (∀ d ∈ List.range q, csN q d ≤ 120) ∧ (∀ i ∈ List.range (q + 1), fcN i ≤ 120) := by decide +kernel
set_option maxRecDepth 100000 in
set_option maxHeartbeats 4000000 in
/-- laws.FnAllPermutingCounted. -/
theorem walk_FnAllPermutingCounted (a0 : Option Addr) (n0 c0 : Nat) (z0 : List Int) (a1 : Option Addr) (n1 c1 : Nat) (z1 : List Int) (w : World) (_h0 : IsRow .u8 w a0 n0 c0 z0) (_h1 : IsRow .u8 w a1 n1 c1 z1) :
    Calls Try.prog 7 #[.slice a0 n0 c0, .slice a1 n1 c1] w fun e w' => e = .returned (.bool true) ∧ Below w.heap.size w w' := by
  clear _h0 _h1
  have HBG := Lib.hid (fun w => big_any a0 a1 n0 c0 n1 c1 w)
  by_cases hb : n0 + n1 ≤ 1048576
  · rw [decide_eq_false (show ¬ (1048576 : Int) < (n0 : Int) by omega), decide_eq_false (show ¬ (1048576 : Int) - (n0 : Int) < (n1 : Int) by omega), Bool.or_false] at HBG
    obtain ⟨q, hqe⟩ : ∃ q, q = 2 + (n0 + n1) % 4 := ⟨_, rfl⟩
    have hq : q = 2 ∨ q = 3 ∨ q = 4 ∨ q = 5 := by omega
    have hq4 : ((n0 : Int) + (n1 : Int)) % 4 = (((n0 + n1) % 4 : Nat) : Int) := by omega
    obtain ⟨r, hr⟩ : ∃ r, (n0 + n1) % 4 = r := ⟨_, rfl⟩
    rw [hr] at hq4 hqe
    have hr4 : r < 4 := by omega
    have hq5 : (2 : Int) + (r : Int) = (q : Int) := by omega
    have hs : isSz (q : Int) = true := by rcases hq with rfl | rfl | rfl | rfl <;> decide
    obtain ⟨hcf, hcs, hfc⟩ := cs_fc q (by simpa using hq)
    have HCF := Lib.hid hcf
    have HCS : Hid (∀ d, d < q → csN q d ≤ 120) := Lib.hid fun d hd => hcs d (List.mem_range.2 hd)
    have HFC : Hid (∀ i, i ≤ q → fcN i ≤ 120) := Lib.hid fun i hi => hfc i (List.mem_range.2 (by omega))
    have HFS : Hid (∀ i, fcN i * (i + 1) = fcN (i + 1)) := Lib.hid fun _ => rfl
    have HSS : Hid (∀ d, csN q d + zcl q (d + 1) (d + 1) 0 * (q - 1) * q = csN q (d + 1)) := Lib.hid fun _ => rfl
    have HF1 : Hid (fcN 1 = 1) := Lib.hid rfl
    have HS0 : Hid (csN q 0 = 0) := Lib.hid rfl
    have HIM := Lib.hid (fun d w (h1 : 1 ≤ d) (h2 : d < q) => impl_CountPermuting_yes q d w hs (by omega) h1 h2)
    have HSP := Lib.hid (fun d w (h1 : 1 ≤ d) (h2 : d < q) => spec_CountPermuting_yes q d w hs (by omega) h1 h2)
    have hq2 : 2 ≤ q ∧ q ≤ 5 := by omega
    clear hcf hcs hfc hs hr hqe hq
    go_enter Try.func7, Try.ntmps7
    go_wp2_with fail
    refine (HBG.out _).mono ?_
    rintro e w1 ⟨rfl, rfl⟩
    go_wp2_with fail
    simp only [hq4]
    go_loopw [6, 8] (fun va vi wr => ∃ i : Nat, 1 ≤ i ∧ i ≤ q ∧ vi = .int .i64 (i + 1 : Nat) ∧ va = .int .i64 (fcN i) ∧ w = wr) (fun _ vi _ => q + 1 - (intOf vi).toNat)
    case atStart => exact ⟨1, by omega, by omega, rfl, by rw [HF1.out]; rfl, rfl⟩
    case round =>
      obtain ⟨i, h1, hi, rfl, rfl, rfl⟩ := hrel
      obtain ⟨i1, hi1⟩ : ∃ x, x = i + 1 := ⟨_, rfl⟩
      rw [← hi1]
      by_cases hlt : i < q
      · have hfb := HFC.out (i + 1) (by omega)
        have hfs := HFS.out i
        rw [← hi1] at hfb hfs
        have hle : (i1 : Int) ≤ (q : Int) := by omega
        have HI1 := Lib.hid hi1
        obtain ⟨x', hx'⟩ : ∃ x, fcN i1 = x := ⟨_, rfl⟩
        rw [hx'] at hfs hfb
        have HX' := Lib.hid hx'
        clear hi1 hx'
        generalize fcN i = x at *
        have hmul : (x : Int) * (i1 : Int) = (x' : Int) := by rw [← hfs]; rfl
        clear hfs
        go_wp2
        go_roundw
        case rel => exact ⟨i1, by have := HI1.out; omega, by omega, by go_num, by rw [HX'.out], by first | rfl | trivial⟩
        case measure => (simp [intOf]; omega)
      · obtain rfl : q = i := by omega
        have hgt : (q : Int) < (i1 : Int) := by omega
        clear hi1
        go_wp2_with fail
        simp only [decide_eq_false (show ¬ i1 ≤ q by omega)]
        go_loopw [7, 9] (fun vs vd wr => ∃ d : Nat, d < q ∧ vd = .int .i64 (d + 1 : Nat) ∧ vs = .int .i64 (csN q d) ∧ Below w.heap.size w wr) (fun _ vd _ => q - (intOf vd).toNat)
        case atStart => exact ⟨0, by omega, rfl, by rw [HS0.out]; rfl, Below.refl _ _⟩
        case round =>
          obtain ⟨d, hd, rfl, rfl, hbw⟩ := hrel
          obtain ⟨d1, hd1⟩ : ∃ x, x = d + 1 := ⟨_, rfl⟩
          rw [← hd1]
          by_cases hlt : d1 < q
          · have hsb := HCS.out (d + 1) (by omega)
            have hss := HSS.out d
            rw [← hd1] at hsb hss
            have HIM' := Lib.hid (fun w => HIM.out d1 w (by omega) hlt)
            have HSP' := Lib.hid (fun w => HSP.out d1 w (by omega) hlt)
            have HD1 := Lib.hid hd1
            have HBW := Lib.hid hbw
            obtain ⟨x', hx'⟩ : ∃ x, csN q d1 = x := ⟨_, rfl⟩
            rw [hx'] at hss hsb
            have HX' := Lib.hid hx'
            clear hd1 hx' hbw
            generalize zcl q d1 d1 0 * (q - 1) * q = z at *
            generalize csN q d = x at *
            have hadd : (x : Int) + (z : Int) = (x' : Int) := by omega
            go_wp2_with fail
            refine (HIM'.out _).mono ?_
            rintro e w2 ⟨rfl, hb2⟩
            have HB2 := Lib.hid (HBW.out.trans (hb2.mono HBW.out.size))
            clear hb2
            go_wp2_with fail
            refine (HSP'.out _).mono ?_
            rintro e w3 ⟨rfl, hb3⟩
            have HB3 := Lib.hid (HB2.out.trans (hb3.mono HB2.out.size))
            clear hb3
            go_wp2
            go_roundw
            case rel => exact ⟨d1, hlt, by go_num, by rw [HX'.out], HB3.out⟩
            case measure => simp [intOf]; omega
          · obtain rfl : d = q - 1 := by omega
            have HBW := Lib.hid hbw
            rw [HCF.out]
            have hge : (q : Int) ≤ (d1 : Int) := by omega
            clear hbw hd1
            go_wp2
            go_ret
            exact ⟨rfl, HBW.out⟩
  · rw [show (decide ((1048576 : Int) < (n0 : Int)) || decide ((1048576 : Int) - (n0 : Int) < (n1 : Int))) = true by
      by_cases h : (1048576 : Int) < (n0 : Int)
      · rw [decide_eq_true h]; rfl
      · rw [decide_eq_true (show (1048576 : Int) - (n0 : Int) < (n1 : Int) by omega), Bool.or_true]] at HBG
    go_enter Try.func7, Try.ntmps7
    go_wp2_with fail
    refine (HBG.out _).mono ?_
    rintro e w1 ⟨rfl, rfl⟩
    go_wp2
    go_ret
    exact ⟨rfl, Below.refl _ _⟩
end Go.Proofs.Ytnmdcmbcackchab
