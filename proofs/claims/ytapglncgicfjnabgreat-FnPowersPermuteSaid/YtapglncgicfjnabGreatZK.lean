/- Powers and Dickson's polynomials permute exactly if there is no divisor in common: plain, by the kernel (no program). -/
import Derived.Test.YtapglncgicfjnabGreatKA
import Derived.Test.YtapglncgicfjnabGreatNB
import Derived.Test.YtapglncgicfjnabGreatLA
namespace Go.Proofs.YtapglncgicfjnabGreat
def nlk (T a b : Nat) : Nat := (T >>> (4 * (16 * a + b))) &&& 15
theorem look_nat (T a b : Nat) : look T (a : Int) (b : Int) = (nlk T a b : Int) := rfl
def nod (acc : Nat) : List Nat → Bool
  | [] => true
  | u :: l => !(acc.testBit u) && nod (acc ||| 1 <<< u) l
theorem nod_iff : ∀ (l : List Nat) (acc : Nat), nod acc l = true ↔ (∀ u ∈ l, acc.testBit u = false) ∧ l.Nodup
  | [], acc => by simp [nod]
  | u :: l, acc => by
    have hb : ∀ v, (acc ||| 1 <<< u).testBit v = (acc.testBit v || decide (u = v)) := fun v => by
      rw [Nat.testBit_or, Nat.one_shiftLeft, Nat.testBit_two_pow]
    simp only [nod, Bool.and_eq_true, Bool.not_eq_true', nod_iff l, hb, Bool.or_eq_false_iff, decide_eq_false_iff_not, List.nodup_cons, List.mem_cons, forall_eq_or_imp]
    constructor
    · rintro ⟨h1, h2, h3⟩
      exact ⟨⟨h1, fun v hv => (h2 v hv).1⟩, fun hu => (h2 u hu).2 rfl, h3⟩
    · rintro ⟨⟨h1, h2⟩, h3, h4⟩
      exact ⟨h1, fun v hv => ⟨h2 v hv, fun e => h3 (e ▸ hv)⟩, h4⟩
theorem dis_nod {m : Nat} {t : Nat → Int} (ht : ∀ x, x < m → 0 ≤ t x) : dis t m = nod 0 ((List.range m).map fun x => (t x).toNat) := by
  rw [Bool.eq_iff_iff, nod_iff]
  unfold dis
  simp only [List.all_eq_true, List.mem_range, decide_eq_true_eq, Nat.zero_testBit, implies_true, true_and]
  rw [List.Nodup, List.pairwise_map]
  constructor
  · intro h
    refine List.pairwise_lt_range.imp_of_mem fun {i j} hi hj hij e => ?_
    have h1 := List.mem_range.1 hi
    have h2 := List.mem_range.1 hj
    refine h j h2 i hij ?_
    have := ht i h1
    have := ht j h2
    omega
  · intro h i hi j hj e
    rw [List.pairwise_iff_getElem] at h
    have := h j i (by simp; omega) (by simp; exact hi) hj
    simp only [List.getElem_range] at this
    exact this (by rw [e])
/-- The tables of Dickson's polynomials, one after the other. -/
def dkRun (T A na : Nat) (N : Nat → Bool) : Nat → List (Nat × Nat × Nat) → Nat → Bool
  | 0, _, _ => true
  | k + 1, s, n => (nod 0 (s.map fun p => p.2.1) == N n) && dkRun T A na N k (s.map fun p => (p.1, p.2.2, nlk A (nlk T p.1 p.2.2) (nlk T na p.2.1))) (n + 1)
def dkSt (m : Nat) (a : Int) (n : Nat) : List (Nat × Nat × Nat) := (List.range m).map fun x => (x, (dkv m a n (x : Int)).toNat, (dkv m a (n + 1) (x : Int)).toNat)
theorem dkRun_ok {m : Nat} {a : Int} {N : Nat → Bool} (h : isSz (m : Int) = true) (ha : El (m : Int) a) : ∀ k n, dkRun (mulTab m) (addTab m) (subF m 0 a).toNat N k (dkSt m a n) n = true → ∀ i, i < k → dis (dkt m a (n + i)) m = N (n + i)
  | 0, n, _, i, hi => absurd hi (Nat.not_lt_zero i)
  | k + 1, n, hr, i, hi => by
    simp only [dkRun, Bool.and_eq_true, beq_iff_eq] at hr
    obtain ⟨h1, h2⟩ := hr
    have hq := isSz_le (m : Int) h
    have en : El (m : Int) (subF m 0 a) := subF_bd (m : Int) 0 a h (Int.le_refl _) (by omega) ha.1 ha.2
    have hst : (dkSt m a n).map (fun p => (p.1, p.2.2, nlk (addTab m) (nlk (mulTab m) p.1 p.2.2) (nlk (mulTab m) (subF m 0 a).toNat p.2.1))) = dkSt m a (n + 1) := by
      unfold dkSt
      rw [List.map_map]
      refine List.map_congr_left fun x hx => ?_
      have hx' := List.mem_range.1 hx
      have ex : El (m : Int) (x : Int) := El.nat hx'
      obtain ⟨d0, d1⟩ := dkv_el h ha ex n
      have e2 : dkv m a (n + 1 + 1) (x : Int) = addF m (mulF m (x : Int) (dkv m a (n + 1) (x : Int))) (mulF m (subF m 0 a) (dkv m a n (x : Int))) := rfl
      obtain ⟨u, hu⟩ := Int.eq_ofNat_of_zero_le d0.1
      obtain ⟨v, hv⟩ := Int.eq_ofNat_of_zero_le d1.1
      obtain ⟨c, hc⟩ := Int.eq_ofNat_of_zero_le en.1
      simp only [Function.comp]
      rw [e2, hu, hv, hc]
      unfold addF mulF
      simp only [Int.toNat_natCast, look_nat]
    rw [hst] at h2
    cases i with
    | zero =>
      rw [Nat.add_zero, ← h1, dis_nod fun x hx => (dkt_el h ha n x hx).1]
      unfold dkSt dkt
      rw [List.map_map]
      rfl
    | succ i =>
      have := dkRun_ok h ha k (n + 1) h2 i (by omega)
      rw [show n + (i + 1) = n + 1 + i by omega]
      exact this
def noDiv (n d : Nat) : Bool := decide (1 ≤ n) && decide (Nat.gcd n d = 1)
def dkAll (m : Nat) : Bool := (List.range m).all fun a => dkRun (mulTab m) (addTab m) (subF m 0 (a : Int)).toNat (fun n => noDiv n (if a = 0 then m - 1 else m * m - 1)) 401 (dkSt m (a : Int) 0) 0
set_option maxRecDepth 100000 in
theorem dk2 : dkAll 2 = true := by decide +kernel
set_option maxRecDepth 100000 in
theorem dk3 : dkAll 3 = true := by decide +kernel
set_option maxRecDepth 100000 in
theorem dk4 : dkAll 4 = true := by decide +kernel
set_option maxRecDepth 100000 in
theorem dk5 : dkAll 5 = true := by decide +kernel
set_option maxRecDepth 100000 in
theorem dk7 : dkAll 7 = true := by decide +kernel
set_option maxRecDepth 100000 in
theorem dk8 : dkAll 8 = true := by decide +kernel
set_option maxRecDepth 100000 in
theorem dk9 : dkAll 9 = true := by decide +kernel
set_option maxRecDepth 100000 in
theorem dk11 : dkAll 11 = true := by decide +kernel
set_option maxRecDepth 100000 in
theorem dk13 : dkAll 13 = true := by decide +kernel
set_option maxRecDepth 100000 in
theorem dk16 : dkAll 16 = true := by decide +kernel
theorem dis_dkt {m n : Nat} {a : Int} (h : isSz (m : Int) = true) (ha : El (m : Int) a) (hn : n ≤ 400) : dis (dkt m a n) m = noDiv n (if a = 0 then m - 1 else m * m - 1) := by
  have hall : dkAll m = true := by
    rcases sz_split (m : Int) h with e | e | e | e | e | e | e | e | e | e
    · obtain rfl : m = 2 := by omega
      exact dk2
    · obtain rfl : m = 3 := by omega
      exact dk3
    · obtain rfl : m = 4 := by omega
      exact dk4
    · obtain rfl : m = 5 := by omega
      exact dk5
    · obtain rfl : m = 7 := by omega
      exact dk7
    · obtain rfl : m = 8 := by omega
      exact dk8
    · obtain rfl : m = 9 := by omega
      exact dk9
    · obtain rfl : m = 11 := by omega
      exact dk11
    · obtain rfl : m = 13 := by omega
      exact dk13
    · obtain rfl : m = 16 := by omega
      exact dk16
  obtain ⟨A, rfl⟩ := Int.eq_ofNat_of_zero_le ha.1
  have hA : A < m := by have := ha.2; omega
  have h1 := List.all_eq_true.1 hall A (List.mem_range.2 hA)
  have h2 := dkRun_ok h ha 401 0 h1 n (by omega)
  rw [Nat.zero_add] at h2
  rw [h2]
  by_cases hz : A = 0
  · subst hz; rfl
  · rw [if_neg hz, if_neg (by omega)]
theorem pw_turnK {q a : Int} (h : isSz q = true) (ha : El q a) (n : Nat) : pw q a (n + q.toNat) = pw q a (n + 1) := by
  have e : pw q a q.toNat = a := of_decide_eq_true (of_chk1 (f := fun q a => decide (pw q a q.toNat = a)) (by decide +kernel) q a h ha.1 ha.2)
  rw [← pw_add q a h ha.1 ha.2, e]
  rfl
theorem pw_redK {q a : Int} (h : isSz q = true) (ha : El q a) (j : Nat) : pw q a (j + 1) = pw q a (j % (q.toNat - 1) + 1) := by
  have hq := isSz_le q h
  induction j using Nat.strongRecOn with
  | ind j ih =>
    by_cases hj : j < q.toNat - 1
    · rw [Nat.mod_eq_of_lt hj]
    · have e : j + 1 = (j - (q.toNat - 1)) + q.toNat := by omega
      rw [e, pw_turnK h ha, ih (j - (q.toNat - 1)) (by omega), Nat.mod_eq_sub_mod (show j ≥ q.toNat - 1 by omega)]
set_option maxRecDepth 100000 in
theorem pws_ok : (sizes.all fun q => dis (fun a => pw q (a : Int) 0) q.toNat == false && (List.range (q.toNat - 1)).all fun j => dis (fun a => pw q (a : Int) (j + 1)) q.toNat == decide (Nat.gcd (j + 1) (q.toNat - 1) = 1)) = true := by decide +kernel
theorem dis_pw {m : Nat} (h : isSz (m : Int) = true) (n : Nat) : dis (fun a => pw (m : Int) (a : Int) n) m = noDiv n (m - 1) := by
  have hq := isSz_le (m : Int) h
  have hm : (m : Int) ∈ sizes := by simpa [isSz] using h
  have hk := List.all_eq_true.1 pws_ok (m : Int) hm
  simp only [Bool.and_eq_true, beq_iff_eq, Int.toNat_natCast] at hk
  cases n with
  | zero => exact hk.1
  | succ j =>
    have hlt : j % (m - 1) < m - 1 := Nat.mod_lt _ (by omega)
    have h1 := List.all_eq_true.1 hk.2 (j % (m - 1)) (List.mem_range.2 hlt)
    rw [beq_iff_eq] at h1
    have e : dis (fun a => pw (m : Int) (a : Int) (j + 1)) m = dis (fun a => pw (m : Int) (a : Int) (j % (m - 1) + 1)) m := by
      unfold dis
      rw [Bool.eq_iff_iff]
      simp only [List.all_eq_true, List.mem_range, decide_eq_true_eq]
      have hr : ∀ x, x < m → pw (m : Int) (x : Int) (j + 1) = pw (m : Int) (x : Int) (j % (m - 1) + 1) := fun x hx => by
        have := pw_redK h (El.nat hx) j
        rwa [Int.toNat_natCast] at this
      constructor
      · intro hd i hi k hk'
        rw [← hr i hi, ← hr k (by omega)]
        exact hd i hi k hk'
      · intro hd i hi k hk'
        rw [hr i hi, hr k (by omega)]
        exact hd i hi k hk'
    have hg : Nat.gcd (j % (m - 1) + 1) (m - 1) = Nat.gcd (j + 1) (m - 1) := by
      rw [Nat.gcd_comm, Nat.gcd_comm (j + 1), Nat.gcd_rec, Nat.gcd_rec (m - 1) (j + 1)]
      congr 1
      rw [Nat.add_mod, Nat.mod_mod, ← Nat.add_mod]
    rw [e, h1]
    unfold noDiv
    rw [Bool.eq_iff_iff]
    simp only [decide_eq_true_eq, Bool.and_eq_true, hg]
    constructor
    · exact fun x => ⟨by omega, x⟩
    · exact fun x => x.2
end Go.Proofs.YtapglncgicfjnabGreat
