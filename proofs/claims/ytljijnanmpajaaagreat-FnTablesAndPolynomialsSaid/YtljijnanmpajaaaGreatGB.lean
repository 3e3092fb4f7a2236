/- Dickson's values: as sums of powers, and joined. No program here. -/
import Derived.Test.YtljijnanmpajaaaGreatGA
import Derived.Test.YtljijnanmpajaaaGreatNB
namespace Go.Proofs.YtljijnanmpajaaaGreat
theorem pw_succ' (q x : Int) (n : Nat) : pw q x (n + 1) = mulF q (pw q x n) x := rfl
/-- D(n) at y and b together, where a is their product. -/
theorem dkv_sum {m : Nat} {a y b : Int} (h : isSz (m : Int) = true) (hy : El (m : Int) y) (hb : El (m : Int) b) (e : mulF m y b = a) : ∀ n, dkv m a n (addF m y b) = addF m (pw m y n) (pw m b n) ∧ dkv m a (n + 1) (addF m y b) = addF m (pw m y (n + 1)) (pw m b (n + 1)) := by
  intro n
  induction n with
  | zero =>
    refine ⟨rfl, ?_⟩
    show addF m y b = addF m (mulF m 1 y) (mulF m 1 b)
    rw [(mul_one' h hy).1, (mul_one' h hb).1]
  | succ n ih =>
    refine ⟨ih.2, ?_⟩
    show addF m (mulF m (addF m y b) (dkv m a (n + 1) (addF m y b))) (mulF m (subF m 0 a) (dkv m a n (addF m y b))) = _
    rw [ih.1, ih.2, ← e, pw_succ' m y (n + 1), pw_succ' m b (n + 1), pw_succ' m y n, pw_succ' m b n]
    have hu := El.pw h hy n
    have hv := El.pw h hb n
    generalize pw m y n = u at *
    generalize pw m b n = v at *
    have := ring_at h [y, b, u, v] (by simp [hy, hb, hu, hv]) ((.x 0 + .x 1) * (.x 2 * .x 0 + .x 3 * .x 1) + (-(.x 0 * .x 1)) * (.x 2 + .x 3)) ((.x 2 * .x 0) * .x 0 + (.x 3 * .x 1) * .x 1) (by decide +kernel)
    simpa only [ev_x, ev_add, ev_mul, ev_neg, env0, env1, env2, env3] using this
theorem dkv_next (m : Nat) (a x : Int) (n : Nat) : dkv m a (n + 2) x = addF m (mulF m x (dkv m a (n + 1) x)) (mulF m (subF m 0 a) (dkv m a n x)) := rfl
/-- What two neighbours have in common. -/
theorem dkv_two {m : Nat} {a x : Int} (h : isSz (m : Int) = true) (ha : El (m : Int) a) (hx : El (m : Int) x) (n : Nat) :
    addF m (addF m (mulF m (dkv m a (n + 1) x) (dkv m a (n + 1) x)) (subF m 0 (mulF m x (mulF m (dkv m a n x) (dkv m a (n + 1) x))))) (mulF m a (mulF m (dkv m a n x) (dkv m a n x))) = mulF m (pw m a n) (addF m (addF m (addF m a a) (addF m a a)) (subF m 0 (mulF m x x))) := by
  induction n with
  | zero =>
    show addF m (addF m (mulF m x x) (subF m 0 (mulF m x (mulF m (addF m 1 1) x)))) (mulF m a (mulF m (addF m 1 1) (addF m 1 1))) = mulF m 1 _
    have := ring_at h [x, a] (by simp [hx, ha]) ((.x 0 * .x 0 + -(.x 0 * ((.one + .one) * .x 0))) + .x 1 * ((.one + .one) * (.one + .one))) (.one * (((.x 1 + .x 1) + (.x 1 + .x 1)) + -(.x 0 * .x 0))) (by decide +kernel)
    simpa only [ev_x, ev_add, ev_mul, ev_neg, ev_one, env0, env1] using this
  | succ n ih =>
    rw [dkv_next, pw_succ' m a n]
    have hF := (dkv_el h ha hx n).1
    have hG := (dkv_el h ha hx n).2
    have hA := El.pw h ha n
    generalize dkv m a n x = F at *
    generalize dkv m a (n + 1) x = G at *
    generalize pw m a n = A at *
    have e1 := ring_at h [x, a, F, G] (by simp [hx, ha, hF, hG])
      (((.x 0 * .x 3 + (-.x 1) * .x 2) * (.x 0 * .x 3 + (-.x 1) * .x 2) + -(.x 0 * (.x 3 * (.x 0 * .x 3 + (-.x 1) * .x 2)))) + .x 1 * (.x 3 * .x 3))
      (.x 1 * ((.x 3 * .x 3 + -(.x 0 * (.x 2 * .x 3))) + .x 1 * (.x 2 * .x 2))) (by decide +kernel)
    simp only [ev_x, ev_add, ev_mul, ev_neg, env0, env1, env2, env3] at e1
    rw [e1, ih]
    have e2 := ring_at h [x, a, A] (by simp [hx, ha, hA]) (.x 1 * (.x 2 * (((.x 1 + .x 1) + (.x 1 + .x 1)) + -(.x 0 * .x 0)))) ((.x 2 * .x 1) * (((.x 1 + .x 1) + (.x 1 + .x 1)) + -(.x 0 * .x 0))) (by decide +kernel)
    simpa only [ev_x, ev_add, ev_mul, ev_neg, env0, env1, env2] using e2
/-- D(2 n) and D(2 n + 1). -/
theorem dkv_dbl {m : Nat} {a x : Int} (h : isSz (m : Int) = true) (ha : El (m : Int) a) (hx : El (m : Int) x) (n : Nat) :
    dkv m a (n + n) x = addF m (mulF m (dkv m a n x) (dkv m a n x)) (subF m 0 (addF m (pw m a n) (pw m a n))) ∧
    dkv m a (n + n + 1) x = addF m (mulF m (dkv m a n x) (dkv m a (n + 1) x)) (subF m 0 (mulF m (pw m a n) x)) := by
  induction n with
  | zero =>
    constructor
    · show addF m 1 1 = addF m (mulF m (addF m 1 1) (addF m 1 1)) (subF m 0 (addF m 1 1))
      have := ring_at h [] (by simp) (.one + .one) ((.one + .one) * (.one + .one) + -(.one + .one)) (by decide +kernel)
      simpa only [ev_add, ev_mul, ev_neg, ev_one] using this
    · show x = addF m (mulF m (addF m 1 1) x) (subF m 0 (mulF m 1 x))
      have := ring_at h [x] (by simp [hx]) (.x 0) ((.one + .one) * .x 0 + -(.one * .x 0)) (by decide +kernel)
      simpa only [ev_x, ev_add, ev_mul, ev_neg, ev_one, env0] using this
  | succ n ih =>
    have hJ := dkv_two h ha hx n
    have e0 : dkv m a (n + 1 + (n + 1)) x = addF m (mulF m x (dkv m a (n + n + 1) x)) (mulF m (subF m 0 a) (dkv m a (n + n) x)) := by
      rw [show n + 1 + (n + 1) = n + n + 2 by omega]; rfl
    have e9 : dkv m a (n + 1 + (n + 1) + 1) x = addF m (mulF m x (dkv m a (n + 1 + (n + 1)) x)) (mulF m (subF m 0 a) (dkv m a (n + n + 1) x)) := by
      rw [show n + 1 + (n + 1) + 1 = n + n + 1 + 2 by omega, show n + 1 + (n + 1) = n + n + 1 + 1 by omega]; rfl
    have hF := (dkv_el h ha hx n).1
    have hG := (dkv_el h ha hx n).2
    have hA := El.pw h ha n
    have first : dkv m a (n + 1 + (n + 1)) x = addF m (mulF m (dkv m a (n + 1) x) (dkv m a (n + 1) x)) (subF m 0 (addF m (mulF m (pw m a n) a) (mulF m (pw m a n) a))) := by
      rw [e0, ih.1, ih.2]
      generalize dkv m a n x = F at *
      generalize dkv m a (n + 1) x = G at *
      generalize pw m a n = A at *
      have e1 := ring_at h [x, a, F, G, A] (by simp [hx, ha, hF, hG, hA])
        (.x 3 * .x 3 + -(.x 4 * .x 1 + .x 4 * .x 1))
        (((.x 3 * .x 3 + -(.x 0 * (.x 2 * .x 3))) + .x 1 * (.x 2 * .x 2)) + ((.x 0 * (.x 2 * .x 3) + -(.x 1 * (.x 2 * .x 2))) + -(.x 4 * .x 1 + .x 4 * .x 1))) (by decide +kernel)
      have e2 := ring_at h [x, a, F, G, A] (by simp [hx, ha, hF, hG, hA])
        (.x 4 * (((.x 1 + .x 1) + (.x 1 + .x 1)) + -(.x 0 * .x 0)) + ((.x 0 * (.x 2 * .x 3) + -(.x 1 * (.x 2 * .x 2))) + -(.x 4 * .x 1 + .x 4 * .x 1)))
        (.x 0 * (.x 2 * .x 3 + -(.x 4 * .x 0)) + (-.x 1) * (.x 2 * .x 2 + -(.x 4 + .x 4))) (by decide +kernel)
      simp only [ev_x, ev_add, ev_mul, ev_neg, env0, env1, env2, env3, env4] at e1 e2
      rw [e1, hJ, e2]
    refine ⟨first, ?_⟩
    rw [e9, first, ih.2, dkv_next, pw_succ' m a n]
    generalize dkv m a n x = F at *
    generalize dkv m a (n + 1) x = G at *
    generalize pw m a n = A at *
    have e1 := ring_at h [x, a, F, G, A] (by simp [hx, ha, hF, hG, hA])
      (.x 0 * (.x 3 * .x 3 + -(.x 4 * .x 1 + .x 4 * .x 1)) + (-.x 1) * (.x 2 * .x 3 + -(.x 4 * .x 0)))
      (.x 3 * (.x 0 * .x 3 + (-.x 1) * .x 2) + -((.x 4 * .x 1) * .x 0)) (by decide +kernel)
    simpa only [ev_x, ev_add, ev_mul, ev_neg, env0, env1, env2, env3, env4] using e1
/-- D(k + 2 n). -/
theorem dkv_far {m : Nat} {a x : Int} (h : isSz (m : Int) = true) (ha : El (m : Int) a) (hx : El (m : Int) x) (n : Nat) : ∀ k,
    dkv m a (k + (n + n)) x = addF m (mulF m (dkv m a n x) (dkv m a (k + n) x)) (subF m 0 (mulF m (pw m a n) (dkv m a k x))) ∧
    dkv m a (k + 1 + (n + n)) x = addF m (mulF m (dkv m a n x) (dkv m a (k + 1 + n) x)) (subF m 0 (mulF m (pw m a n) (dkv m a (k + 1) x))) := by
  obtain ⟨d0, d1⟩ := dkv_dbl h ha hx n
  have hF := (dkv_el h ha hx n).1
  have hA := El.pw h ha n
  intro k
  induction k with
  | zero =>
    constructor
    · rw [Nat.zero_add, Nat.zero_add, d0]
      show _ = addF m _ (subF m 0 (mulF m (pw m a n) (addF m 1 1)))
      have := ring_at h [pw m a n] (by simp [hA]) (.x 0 + .x 0) (.x 0 * (.one + .one)) (by decide +kernel)
      simp only [ev_x, ev_add, ev_mul, ev_one, env0] at this
      rw [this]
    · rw [show 0 + 1 + (n + n) = n + n + 1 by omega, show 0 + 1 + n = n + 1 by omega, d1]
      rfl
  | succ k ih =>
    refine ⟨ih.2, ?_⟩
    have e0 : dkv m a (k + 1 + 1 + (n + n)) x = addF m (mulF m x (dkv m a (k + 1 + (n + n)) x)) (mulF m (subF m 0 a) (dkv m a (k + (n + n)) x)) := by
      rw [show k + 1 + 1 + (n + n) = k + (n + n) + 2 by omega, show k + 1 + (n + n) = k + (n + n) + 1 by omega]; rfl
    have e1 : dkv m a (k + 1 + 1 + n) x = addF m (mulF m x (dkv m a (k + 1 + n) x)) (mulF m (subF m 0 a) (dkv m a (k + n) x)) := by
      rw [show k + 1 + 1 + n = k + n + 2 by omega, show k + 1 + n = k + n + 1 by omega]; rfl
    rw [e0, ih.1, ih.2, e1, dkv_next m a x k]
    have hu := (dkv_el h ha hx (k + 1 + n)).1
    have hv := (dkv_el h ha hx (k + 1)).1
    have hs := (dkv_el h ha hx (k + n)).1
    have ht := (dkv_el h ha hx k).1
    generalize dkv m a (k + 1 + n) x = u at *
    generalize dkv m a (k + 1) x = v at *
    generalize dkv m a (k + n) x = s at *
    generalize dkv m a k x = t at *
    generalize dkv m a n x = F at *
    generalize pw m a n = A at *
    have := ring_at h [x, a, F, A, u, v, s, t] (by simp [hx, ha, hF, hA, hu, hv, hs, ht])
      (.x 0 * (.x 2 * .x 4 + -(.x 3 * .x 5)) + (-.x 1) * (.x 2 * .x 6 + -(.x 3 * .x 7)))
      (.x 2 * (.x 0 * .x 4 + (-.x 1) * .x 6) + -(.x 3 * (.x 0 * .x 5 + (-.x 1) * .x 7))) (by decide +kernel)
    simpa only [ev_x, ev_add, ev_mul, ev_neg, env0, env1, env2, env3, env4, env5, env6, env7] using this
/-- Joined ones are those of products. -/
theorem dkv_join {m : Nat} {a x : Int} (h : isSz (m : Int) = true) (ha : El (m : Int) a) (hx : El (m : Int) x) (n : Nat) : ∀ k,
    dkv m (pw m a n) k (dkv m a n x) = dkv m a (k * n) x ∧ dkv m (pw m a n) (k + 1) (dkv m a n x) = dkv m a ((k + 1) * n) x := by
  have hF := (dkv_el h ha hx n).1
  have hA := El.pw h ha n
  intro k
  induction k with
  | zero =>
    refine ⟨by rw [Nat.zero_mul]; rfl, ?_⟩
    rw [show (0 + 1) * n = n by omega]
    rfl
  | succ k ih =>
    refine ⟨ih.2, ?_⟩
    rw [dkv_next, ih.1, ih.2, show (k + 1 + 1) * n = k * n + (n + n) by rw [Nat.succ_mul, Nat.succ_mul]; omega, (dkv_far h ha hx n (k * n)).1, show (k + 1) * n = k * n + n by rw [Nat.succ_mul]]
    have hu := (dkv_el h ha hx (k * n + n)).1
    have hv := (dkv_el h ha hx (k * n)).1
    generalize dkv m a (k * n + n) x = u at *
    generalize dkv m a (k * n) x = v at *
    generalize dkv m a n x = F at *
    generalize pw m a n = A at *
    have := ring_at h [F, A, u, v] (by simp [hF, hA, hu, hv]) (.x 0 * .x 2 + (-.x 1) * .x 3) (.x 0 * .x 2 + -(.x 1 * .x 3)) (by decide +kernel)
    simpa only [ev_x, ev_add, ev_mul, ev_neg, env0, env1, env2, env3] using this
end Go.Proofs.YtljijnanmpajaaaGreat
