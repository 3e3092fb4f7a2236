/- Polynomials of a degree by their numbers of values: what the model counts and what the program counts; plain arithmetic. -/
import Derived.Test.YtnmdcmbcackchabOM
import Derived.Test.YtnmdcmbcackchabME
import Derived.Test.YtnmdcmbcackchabKK
namespace Go.Proofs.Ytnmdcmbcackchab
theorem pf_tp (m d j : Nat) : pf m d j = topF d 1 (dgt m j) := rfl
theorem tabF_vt {m d : Nat} {a : Int} {f : Nat → Int} (h : isSz (m : Int) = true) (ha : El (m : Int) a) (hf : ∀ i, El (m : Int) (f i)) (x : Nat) (hx : x < m) : tabF (m : Int) (topF d a f) (d + 1) x = vt m d a f x := by
  unfold tabF vt
  rw [hor_val h (El.nat hx) (topF_el h ha hf) (d + 1)]
theorem nv_wh (P : Nat → Bool) (m : Nat) : (wh P m).length = ((List.range m).filter P).length := by simp [wh]
def TSp (m d : Nat) : Nat → Int := fun n => ((nv m (vt m d ((1 + n / m ^ d : Nat) : Int) (dgt m n)) : Nat) : Int)
def TPl (m d : Nat) : Nat → Int := fun j => ((nv m (vt m d 1 (dgt m (m * j))) : Nat) : Int)
def fms (m d : Nat) : Nat := if d = 0 then m - 1 else (m - 1) * m
def rnd (m d : Nat) : Nat := if d = 0 then 1 else m ^ (d - 1)
theorem vt_zero {m : Nat} {a : Int} {f : Nat → Int} (h : isSz (m : Int) = true) (ha : El (m : Int) a) (x : Nat) (_hx : x < m) : vt m 0 a f x = a := by
  unfold vt val
  show addF (m : Int) 0 (mulF (m : Int) (topF 0 a f 0) (pw (m : Int) (x : Int) 0)) = a
  have e : topF 0 a f 0 = a := by simp [topF]
  rw [e, show pw (m : Int) (x : Int) 0 = 1 from rfl, (mul_one' h ha).2, (add_zero' h ha).2]
theorem cbv_eq {m d : Nat} (h : isSz (m : Int) = true) (y : Nat) : ((fms m d : Nat) : Int) * oc (TPl m d) (rnd m d) y = oc (TSp m d) ((m - 1) * m ^ d) y := by
  have hq := isSz_le (m : Int) h
  rw [oc_sg (TPl m d) y _ fun i _ => Int.natCast_nonneg _, oc_sg (TSp m d) y _ fun i _ => Int.natCast_nonneg _]
  have e1 : ∀ N, sg (fun i => if TSp m d i = (y : Int) then 1 else 0) N = sg (fun n => if nv m (vt m d ((1 + n / m ^ d : Nat) : Int) (dgt m n)) = y then 1 else 0) N := fun N => sg_congr N fun i _ => by
    have : (TSp m d i = (y : Int)) ↔ nv m (vt m d ((1 + i / m ^ d : Nat) : Int) (dgt m i)) = y := by unfold TSp; exact Int.ofNat_inj
    by_cases c : TSp m d i = (y : Int)
    · rw [if_pos c, if_pos (this.1 c)]
    · rw [if_neg c, if_neg fun e => c (this.2 e)]
  have e2 : ∀ N, sg (fun i => if TPl m d i = (y : Int) then 1 else 0) N = sg (fun j => if nv m (vt m d 1 (dgt m (m * j))) = y then 1 else 0) N := fun N => sg_congr N fun i _ => by
    have : (TPl m d i = (y : Int)) ↔ nv m (vt m d 1 (dgt m (m * i))) = y := by unfold TPl; exact Int.ofNat_inj
    by_cases c : TPl m d i = (y : Int)
    · rw [if_pos c, if_pos (this.1 c)]
    · rw [if_neg c, if_neg fun e => c (this.2 e)]
  rw [e1, e2]
  by_cases hd : d = 0
  · subst hd
    have h1 : ∀ f : Nat → Int, nv m (vt m 0 1 f) = 1 := fun f => nv_const (a := 1) (by omega) fun i hi => vt_zero h (El.one h) i hi
    have h2 : sg (fun n => if nv m (vt m 0 ((1 + n / m ^ 0 : Nat) : Int) (dgt m n)) = y then 1 else 0) ((m - 1) * m ^ 0) = sg (fun _ => if 1 = y then 1 else 0) (m - 1) := by
      rw [Nat.pow_zero, Nat.mul_one]
      refine sg_congr _ fun n hn => ?_
      have h3 : nv m (vt m 0 ((1 + n / 1 : Nat) : Int) (dgt m n)) = 1 := nv_const (a := 1 + n / 1) (by rw [Nat.div_one]; omega) fun i hi => vt_zero h (El.nat (by rw [Nat.div_one]; omega)) i hi
      rw [h3]
    rw [h2, sg_const]
    show ((m - 1 : Nat) : Int) * ((0 + (if nv m (vt m 0 1 (dgt m (m * 0))) = y then 1 else 0) : Nat) : Int) = _
    rw [h1, Nat.zero_add, ← Int.natCast_mul]
  · have h3 := all_plain (m := m) (d := d) (k := y) h (by omega)
    unfold allV plainV at h3
    rw [Nat.mul_comm (m - 1) (m ^ d), h3, show fms m d = (m - 1) * m from if_neg hd, show rnd m d = m ^ (d - 1) from if_neg hd, ← Int.natCast_mul, Nat.mul_assoc]
theorem TPl_bd (m d j : Nat) : nv m (vt m d 1 (dgt m (m * j))) ≤ m := nv_le _ _
/-- Few enough. -/
def few (m d : Nat) : Bool := decide ((m - 1) * m ^ d ≤ 20000)
theorem few_pow {m d : Nat} (hm : 2 ≤ m) (h : few m d = true) : m ^ d ≤ 20000 := by
  have h1 := of_decide_eq_true h
  have h2 : 1 * m ^ d ≤ (m - 1) * m ^ d := Nat.mul_le_mul_right _ (by omega)
  omega
theorem few_mono {m k d : Nat} (hm : 1 ≤ m) (hk : k ≤ d) (h : few m k = false) : few m d = false := by
  have h1 := of_decide_eq_false h
  refine decide_eq_false ?_
  have h2 : (m - 1) * m ^ k ≤ (m - 1) * m ^ d := Nat.mul_le_mul_left _ (Nat.pow_le_pow_right hm hk)
  omega
theorem rnd_lt {m d : Nat} (hm : 2 ≤ m) (k : Nat) (hk : k < rnd m d) : m * k < m ^ d := by
  unfold rnd at hk
  by_cases hd : d = 0
  · rw [if_pos hd] at hk
    subst hd
    rw [show k = 0 by omega]
    simp
  · rw [if_neg hd] at hk
    obtain ⟨e, rfl⟩ : ∃ e, d = e + 1 := ⟨d - 1, by omega⟩
    rw [Nat.add_sub_cancel] at hk
    rw [Nat.pow_succ, Nat.mul_comm (m ^ e) m]
    exact (Nat.mul_lt_mul_left (by omega)).2 hk
theorem rnd_ge {m d : Nat} (hm : 2 ≤ m) : m ^ d ≤ m * rnd m d ∧ m * rnd m d ≤ m * m ^ d := by
  unfold rnd
  by_cases hd : d = 0
  · rw [if_pos hd]
    subst hd
    simp
    omega
  · rw [if_neg hd]
    obtain ⟨e, rfl⟩ : ∃ e, d = e + 1 := ⟨d - 1, by omega⟩
    rw [Nat.add_sub_cancel, Nat.pow_succ]
    refine ⟨Nat.le_of_eq (Nat.mul_comm _ _), Nat.mul_le_mul_left _ ?_⟩
    exact Nat.le_mul_of_pos_right _ (by omega)
end Go.Proofs.Ytnmdcmbcackchab
