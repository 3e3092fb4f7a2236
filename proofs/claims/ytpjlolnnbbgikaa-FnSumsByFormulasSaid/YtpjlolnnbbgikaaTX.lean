/- What FnSumsByFormulas asks: quadratics, sums of two squares, shifted sums and runs have the formulas' values. -/
import Derived.Test.YtpjlolnnbbgikaaTH
import Derived.Test.YtpjlolnnbbgikaaTQ
import Derived.Test.YtpjlolnnbbgikaaTJ
namespace Go.Proofs.Ytpjlolnnbbgikaa
open Go.RowKit
/-- How many x, y have x x + y y as d. -/
def sq2 (m : Nat) (d : Int) : Int := csm (fun x => ncn (fun y => decide (addF m (mulF m (x : Int) (x : Int)) (mulF m (y : Int) (y : Int)) = d)) m) m
theorem css_all {m : Nat} (h : isSz (m : Int) = true) (ho : (m : Int) % 2 = 1) {d : Int} (hd : El (m : Int) d) : sq2 m d = css m d := by
  have hk : ∀ m ∈ odds, ∀ d ∈ List.range m, sq2 m (d : Int) = css m (d : Int) := by decide +kernel
  obtain ⟨i, rfl⟩ := Int.eq_ofNat_of_zero_le hd.1
  exact hk m (odds_of h ho) i (List.mem_range.2 (by have := hd.2; omega))
theorem shs_all {m : Nat} (h : isSz (m : Int) = true) (ho : (m : Int) % 2 = 1) {d : Int} (hd : El (m : Int) d) : shs m d = if d = 0 then (m : Int) - 1 else -1 := by
  have hk : ∀ m ∈ odds, ∀ d ∈ List.range m, shs m (d : Int) = if (d : Int) = 0 then (m : Int) - 1 else -1 := by decide +kernel
  obtain ⟨i, rfl⟩ := Int.eq_ofNat_of_zero_le hd.1
  exact hk m (odds_of h ho) i (List.mem_range.2 (by have := hd.2; omega))
/-- The characters of a quadratic's values, added up. -/
def qsm (m : Nat) (a b c : Int) : Int := csm (fun x => chi m (addF m (mulF m (addF m (mulF m a (x : Int)) b) (x : Int)) c)) m
theorem csm_scale (k : Int) (c : Nat → Int) : ∀ n, csm (fun x => k * c x) n = k * csm c n
  | 0 => (Int.mul_zero k).symm
  | n + 1 => by
    show csm (fun x => k * c x) n + k * c n = k * (csm c n + c n)
    rw [csm_scale k c n, Int.mul_add]
theorem quad_split {m : Nat} (h : isSz (m : Int) = true) {a b c x : Int} (ha : El (m : Int) a) (h0 : a ≠ 0) (hb : El (m : Int) b) (hc : El (m : Int) c) (hx : El (m : Int) x) :
    addF m (mulF m (addF m (mulF m a x) b) x) c = mulF m a (addF m (mulF m (addF m (mulF m 1 x) (mulF m (invF m a) b)) x) (mulF m (invF m a) c)) := by
  have hi := ha.inv' h
  have e1 : mulF m a (invF m a) = 1 := by rw [mul_comm' h ha hi]; exact inv_mul' h ha h0
  have hb' := hi.mul h hb
  have hc' := hi.mul h hc
  have e2 : ∀ y, El (m : Int) y → mulF m a (mulF m (invF m a) y) = y := fun y hy => by rw [← mul_assoc' h ha hi hy, e1, (mul_one' h hy).1]
  rw [(mul_one' h hx).1, mul_add' h ha ((hx.add h hb').mul h hx) hc', e2 c hc, ← mul_assoc' h ha (hx.add h hb') hx, mul_add' h ha hx hb', e2 b hb]
theorem quad_one {m : Nat} (h : isSz (m : Int) = true) (ho : (m : Int) % 2 = 1) {b c : Int} (hb : El (m : Int) b) (hc : El (m : Int) c) : qsm m 1 b c = if mulF m b b = tim m c 4 then (m : Int) - 1 else -1 := by
  have hk : ∀ m ∈ odds, ∀ b ∈ List.range m, ∀ c ∈ List.range m, qsm m 1 (b : Int) (c : Int) = if mulF m (b : Int) (b : Int) = tim m (c : Int) 4 then (m : Int) - 1 else -1 := by decide +kernel
  obtain ⟨j, rfl⟩ := Int.eq_ofNat_of_zero_le hb.1
  obtain ⟨k, rfl⟩ := Int.eq_ofNat_of_zero_le hc.1
  exact hk m (odds_of h ho) j (List.mem_range.2 (by have := hb.2; omega)) k (List.mem_range.2 (by have := hc.2; omega))
theorem quad_cond {m : Nat} (h : isSz (m : Int) = true) {a b c : Int} (ha : El (m : Int) a) (h0 : a ≠ 0) (hb : El (m : Int) b) (hc : El (m : Int) c) : (mulF m (mulF m (invF m a) b) (mulF m (invF m a) b) = tim m (mulF m (invF m a) c) 4) ↔ mulF m b b = tim m (mulF m a c) 4 := by
  have key := of_chk3 (f := fun q a b c => (a == 0) || ((mulF q (mulF q (invF q a) b) (mulF q (invF q a) b) == tim q (mulF q (invF q a) c) 4) == (mulF q b b == tim q (mulF q a c) 4))) (by decide +kernel) (m : Int) a b c h ha.1 ha.2 hb.1 hb.2 hc.1 hc.2
  have h1 : (a == 0) = false := by simpa using h0
  rw [h1, Bool.false_or] at key
  have h2 := eq_of_beq key
  constructor
  · intro e
    exact eq_of_beq (by rw [← h2]; exact beq_iff_eq.2 e)
  · intro e
    exact eq_of_beq (by rw [h2]; exact beq_iff_eq.2 e)
theorem qds_all {m : Nat} (h : isSz (m : Int) = true) (ho : (m : Int) % 2 = 1) {a b c : Int} (ha : El (m : Int) a) (h0 : a ≠ 0) (hb : El (m : Int) b) (hc : El (m : Int) c) : qsm m a b c = qds m a b c := by
  have hi := ha.inv' h
  have hb' := hi.mul h hb
  have hc' := hi.mul h hc
  have e1 : qsm m a b c = chi m a * qsm m 1 (mulF m (invF m a) b) (mulF m (invF m a) c) := by
    unfold qsm
    rw [← csm_scale]
    refine csm_congr m fun x hx => ?_
    have hxe : El (m : Int) (x : Int) := ⟨by omega, by omega⟩
    rw [quad_split h ha h0 hb hc hxe]
    have hu := ((((El.one h).mul h hxe).add h hb').mul h hxe).add h hc'
    have hk : ∀ m ∈ odds, ∀ a ∈ List.range m, ∀ b ∈ List.range m, chi m (mulF m (a : Int) (b : Int)) = chi m (a : Int) * chi m (b : Int) := by decide +kernel
    generalize addF (m : Int) (mulF m (addF m (mulF m 1 (x : Int)) (mulF m (invF m a) b)) (x : Int)) (mulF m (invF m a) c) = u at *
    obtain ⟨i, rfl⟩ := Int.eq_ofNat_of_zero_le ha.1
    obtain ⟨j, rfl⟩ := Int.eq_ofNat_of_zero_le hu.1
    exact hk m (odds_of h ho) i (List.mem_range.2 (by have := ha.2; omega)) j (List.mem_range.2 (by have := hu.2; omega))
  rw [e1, quad_one h ho hb' hc']
  unfold qds
  by_cases hd : mulF m b b = tim m (mulF m a c) 4
  · rw [if_pos hd, if_pos ((quad_cond h ha h0 hb hc).2 hd)]
  · rw [if_neg hd, if_neg (fun hh => hd ((quad_cond h ha h0 hb hc).1 hh))]
    omega
end Go.Proofs.Ytpjlolnnbbgikaa
