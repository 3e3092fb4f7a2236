/- Polynomials that permute, of both: pePermutes, validPermuting; InversePoly; the walk of its law. -/
import Derived.Test.YtgndlpdcebmgmacLD
import Derived.Test.YtgndlpdcebmgmacLJ
namespace Go.Proofs.Ytgndlpdcebmgmac
open Go.RowKit
/-- A polynomial that permutes. -/
def prm (q : Int) (l : List Int) : Bool := (isSz q && good q l) && dis (tabF q (fun i => l.getD i 0) l.length) q.toNat
theorem prm_nat {m : Nat} {l : List Int} (h : prm (m : Int) l = true) : isSz (m : Int) = true ∧ good (m : Int) l = true ∧ dis (tabF (m : Int) (fun i => l.getD i 0) l.length) m = true := by
  simpa [prm, Bool.and_eq_true, and_assoc] using h
theorem prm_size {q : Int} {l : List Int} (h : prm q l = true) : ∃ m : Nat, q = (m : Int) := by
  have h1 : isSz q = true := by
    simp only [prm, Bool.and_eq_true] at h
    exact h.1.1
  have := isSz_le q h1
  exact Int.eq_ofNat_of_zero_le (by omega)
theorem pePermutes_no (q : Int) (v : Value) (l : List Int) (w : World) (hv : Sl w v l) (hl : l.length ≤ 1048576) (hg : prm q l = false) :
    Calls Try.prog 65 #[.int .i64 q, v] w fun e w' => ∃ v', e = .returned (.tuple #[v', .bool false]) ∧ Below w.heap.size w w' := by
  have hp := plGood_any q v l w hv hl
  cases hs : isSz q && good q l with
  | false =>
    rw [hs] at hp
    have HP := Lib.hid hp
    clear hp hg hv hl hs
    go_enter Try.func65, Try.ntmps65
    go_wp2_with fail
    refine HP.out.mono ?_
    rintro e w1 ⟨rfl, hb1⟩
    go_wp2
    go_ret2
    exact ⟨_, rfl, hb1⟩
  | true =>
    rw [hs] at hp
    have HP := Lib.hid hp
    have hs2 := hs
    simp only [Bool.and_eq_true] at hs2
    have hq := isSz_le q hs2.1
    obtain ⟨m, rfl⟩ := Int.eq_ofNat_of_zero_le (show 0 ≤ q by omega)
    have hdis : dis (tabF (m : Int) (fun i => l.getD i 0) l.length) m = false := by
      unfold prm at hg
      rw [hs] at hg
      simpa using hg
    have hlen := (good_parts hs2.2).1
    have HV := Lib.hid (fun w' (hb : Below w.heap.size w w') => plValues_any (m : Int) v l w' hs2.1 (hv.below hb (Nat.le_refl _)) hs2.2)
    simp only [Int.toNat_natCast] at HV
    clear hp hg hv hl hs hs2
    generalize (tabF (m : Int) (fun i => l.getD i 0) l.length) = t at *
    have HDS := Lib.hid (fun v w' (hr : Row w' w.heap.size v (fl t m)) => by have := peDoes_any v t m w' hr.sl hr.capv (by omega); rw [hdis] at this; exact this)
    clear hdis
    go_enter Try.func65, Try.ntmps65
    go_wp2_with fail
    refine HP.out.mono ?_
    rintro e w1 ⟨rfl, hb1⟩
    have hz_hb1 := hb1.size; (try simp at hz_hb1)
    have HB1 := Lib.hid hb1; clear hb1
    go_wp2_with fail
    refine (HV.out _ HB1.out).mono ?_
    rintro e w2 ⟨v2, rfl, hr2, hb2⟩
    have HR2 := Lib.hid hr2; clear hr2
    have HB2 := Lib.hid hb2; clear hb2
    go_wp2_with fail
    refine (HDS.out v2 _ (HR2.out.mono hz_hb1)).mono ?_
    rintro e w3 ⟨rfl, rfl⟩
    go_wp2
    go_ret2
    exact ⟨_, rfl, HB1.out.trans (HB2.out.mono hz_hb1)⟩
theorem pePermutes_yes (m : Nat) (v : Value) (l : List Int) (w : World) (hv : Sl w v l) (hpr : prm (m : Int) l = true) :
    Calls Try.prog 65 #[.int .i64 m, v] w fun e w' => ∃ v', e = .returned (.tuple #[v', .bool true]) ∧ Row w' w.heap.size v' (fl (tabF (m : Int) (fun i => l.getD i 0) l.length) m) ∧ Below w.heap.size w w' := by
  obtain ⟨h, hg, hdis⟩ := prm_nat hpr
  have hq := isSz_le (m : Int) h
  have hlen := (good_parts hg).1
  have hp := plGood_any (m : Int) v l w hv (by omega)
  rw [h, hg] at hp
  have HP := Lib.hid hp
  have HV := Lib.hid (fun w' (hb : Below w.heap.size w w') => plValues_any (m : Int) v l w' h (hv.below hb (Nat.le_refl _)) hg)
  simp only [Int.toNat_natCast] at HV
  clear hp hg hv h hpr
  generalize (tabF (m : Int) (fun i => l.getD i 0) l.length) = t at *
  have HDS := Lib.hid (fun v w' (hr : Row w' w.heap.size v (fl t m)) => by have := peDoes_any v t m w' hr.sl hr.capv (by omega); rw [hdis] at this; exact this)
  clear hdis
  go_enter Try.func65, Try.ntmps65
  go_wp2_with fail
  refine HP.out.mono ?_
  rintro e w1 ⟨rfl, hb1⟩
  have hz_hb1 := hb1.size; (try simp at hz_hb1)
  have HB1 := Lib.hid hb1; clear hb1
  go_wp2_with fail
  refine (HV.out _ HB1.out).mono ?_
  rintro e w2 ⟨v2, rfl, hr2, hb2⟩
  have HR2 := Lib.hid hr2; clear hr2
  have HB2 := Lib.hid hb2; clear hb2
  go_wp2_with fail
  refine (HDS.out v2 _ (HR2.out.mono hz_hb1)).mono ?_
  rintro e w3 ⟨rfl, rfl⟩
  go_wp2
  go_ret2
  exact ⟨_, rfl, HR2.out.mono hz_hb1, HB1.out.trans (HB2.out.mono hz_hb1)⟩
end Go.Proofs.Ytgndlpdcebmgmac
