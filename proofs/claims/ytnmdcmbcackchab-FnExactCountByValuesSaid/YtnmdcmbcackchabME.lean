/- Polynomials with the coefficient 1 at a degree, by numbers: those that permute, and normal ones of them, counted. No program here. -/
import Derived.Test.YtnmdcmbcackchabKL
import Derived.Test.YtnmdcmbcackchabLA
import Derived.Test.YtnmdcmbcackchabLO
import Derived.Test.YtnmdcmbcackchabLR
namespace Go.Proofs.Ytnmdcmbcackchab
open Go.RowKit
set_option maxRecDepth 100000
theorem fl_cons (f : Nat → Int) (n : Nat) : fl f (n + 1) = f 0 :: fl (fun i => f (i + 1)) n := by
  unfold fl
  rw [List.range_succ_eq_map, List.map_cons, List.map_map]
  rfl
/-- The polynomial with the digits of j, and 1 at d. -/
def pf (m d j : Nat) : Nat → Int := fun i => if i < d then ((j / m ^ i % m : Nat) : Int) else if i = d then 1 else 0
theorem pf_top (m d j : Nat) : pf m d j d = 1 := by simp [pf]
theorem pf_past (m d j : Nat) {i : Nat} (h : d < i) : pf m d j i = 0 := by simp [pf, show ¬ i < d by omega, show i ≠ d by omega]
theorem pf_el {m : Nat} (d j : Nat) (h : 2 ≤ m) (i : Nat) : El (m : Int) (pf m d j i) := by
  unfold pf
  split
  · have := Nat.mod_lt (j / m ^ i) (show 0 < m by omega)
    exact ⟨by omega, by omega⟩
  · split
    · exact ⟨by omega, by omega⟩
    · exact ⟨by omega, by omega⟩
theorem bdig_pf {m : Nat} (hm : 2 ≤ m) : ∀ (d j f : Nat), j < m ^ d → m ^ d + j < 2 ^ f → bdig m f (m ^ d + j) = fl (pf m d j) (d + 1)
  | 0, j, f, hj, hf => by
    obtain rfl : j = 0 := by simpa using hj
    obtain ⟨f', rfl, e⟩ := bdig_pos m f (m ^ 0 + 0) (by simp) hf
    rw [e]
    have h1 : (m ^ 0 + 0) % m = 1 := by simp; exact Nat.mod_eq_of_lt (by omega)
    have h2 : (m ^ 0 + 0) / m = 0 := by simp; omega
    rw [h1, h2, bdig_zero]
    rfl
  | d + 1, j, f, hj, hf => by
    have hp : 0 < m ^ (d + 1) := Nat.pow_pos (by omega)
    obtain ⟨f', rfl, e⟩ := bdig_pos m f (m ^ (d + 1) + j) (by omega) hf
    have hs : m ^ (d + 1) = m * m ^ d := by rw [Nat.pow_succ, Nat.mul_comm]
    have h1 : (m ^ (d + 1) + j) % m = j % m := by rw [hs, Nat.mul_add_mod]
    have h2 : (m ^ (d + 1) + j) / m = m ^ d + j / m := by rw [hs, Nat.mul_add_div (by omega)]
    have h3 : j / m < m ^ d := Nat.div_lt_of_lt_mul (by rw [← hs]; exact hj)
    have h4 := half_lt m f' (m ^ (d + 1) + j) hm hf
    rw [h2] at h4
    rw [e, h1, h2, bdig_pf hm d (j / m) f' h3 h4, fl_cons (pf m (d + 1) j) (d + 1)]
    refine List.cons_eq_cons.2 ⟨?_, ?_⟩
    · show ((j % m : Nat) : Int) = pf m (d + 1) j 0
      simp [pf]
    · refine fl_congr fun i hi => ?_
      unfold pf
      by_cases hid : i < d
      · rw [if_pos hid, if_pos (by omega), Nat.pow_succ, Nat.mul_comm (m ^ i) m, Nat.div_div_eq_div_mul]
      · obtain rfl : i = d := by omega
        rw [if_neg (by omega), if_pos rfl, if_neg (by omega), if_pos rfl]
/-- One coefficient put in. -/
theorem pf_put {m d b j c c' : Nat} (hm : 2 ≤ m) (hb : b < d) (hc : c < m) (hc' : c' < m) : upd (pf m d ((j * m + c) * m ^ b)) b (c' : Int) = pf m d ((j * m + c') * m ^ b) := by
  funext i
  have hp : ∀ k, 0 < m ^ k := fun k => Nat.pow_pos (by omega)
  by_cases hi : i = b
  · subst hi
    rw [upd_at]
    unfold pf
    rw [if_pos hb, Nat.mul_div_cancel _ (hp i), Nat.mul_comm, Nat.mul_add_mod, Nat.mod_eq_of_lt hc']
  · rw [upd_ne _ _ _ _ hi]
    unfold pf
    by_cases hid : i < d
    · rw [if_pos hid, if_pos hid]
      congr 1
      by_cases hlt : i < b
      · obtain ⟨e, rfl⟩ : ∃ e, b = i + (e + 1) := ⟨b - i - 1, by omega⟩
        have : ∀ x, (x * m ^ (i + (e + 1))) / m ^ i % m = 0 := fun x => by
          rw [Nat.pow_add, ← Nat.mul_assoc, Nat.mul_right_comm, Nat.mul_div_cancel _ (hp i), Nat.pow_succ, ← Nat.mul_assoc, Nat.mul_mod_left]
        rw [this, this]
      · obtain ⟨e, rfl⟩ : ∃ e, i = b + (e + 1) := ⟨i - b - 1, by omega⟩
        have : ∀ c, c < m → ((j * m + c) * m ^ b) / m ^ (b + (e + 1)) = j / m ^ e := fun c hc => by
          rw [Nat.pow_add, ← Nat.div_div_eq_div_mul, Nat.mul_div_cancel _ (hp b), Nat.pow_succ, Nat.mul_comm (m ^ e) m, ← Nat.div_div_eq_div_mul, Nat.mul_comm j m, Nat.mul_add_div (by omega), Nat.div_eq_of_lt hc, Nat.add_zero]
        rw [this c hc, this c' hc']
    · rw [if_neg hid, if_neg hid]
theorem pf_zero (m d : Nat) : ∀ i, i < d → pf m d 0 i = 0 := fun i hi => by simp [pf, hi]
/-- Does it permute? -/
def pp (m d j : Nat) : Bool := dis (tabF (m : Int) (pf m d j) (d + 1)) m
/-- And is it normal? -/
def kp (m d j : Nat) : Bool := nrm m (pf m d j) (d + 1) && pp m d j
/-- Those that are found up to a number, those with another value at 0 than 0 left out. -/
def nl (m d k : Nat) : List Nat := ((List.range k).map (fun i => m * i)).filter (kp m d)
theorem nl_succ (m d k : Nat) : nl m d (k + 1) = nl m d k ++ (if kp m d (m * k) then [m * k] else []) := by
  unfold nl
  rw [List.range_succ, List.map_append, List.filter_append]
  congr 1
  simp only [List.map_cons, List.map_nil, List.filter_cons, List.filter_nil]
theorem nl_len (m d k : Nat) : (nl m d k).length ≤ k := by
  unfold nl
  have := List.length_filter_le (kp m d) ((List.range k).map (fun i => m * i))
  simpa using this
/-- The same, by a tree. -/
def sgl (m d : Nat) : Nat → Nat → List Nat
  | 0, j => if kp m d j then [j] else []
  | 1, j => if kp m d (j * m) then [j * m] else []
  | b + 2, j => (List.range m).flatMap fun c => sgl m d (b + 1) (j * m + c)
theorem range_flat (n M : Nat) : (List.range M).flatMap (fun c => (List.range n).map fun k => c * n + k) = List.range (M * n) := by
  induction M with
  | zero => simp
  | succ M ih =>
    rw [List.range_succ, List.flatMap_append, ih, Nat.succ_mul, List.range_add]
    simp
theorem sgl_is (m d : Nat) : ∀ b j, sgl m d (b + 1) j = ((List.range (m ^ b)).map (fun k => m * (j * m ^ b + k))).filter (kp m d)
  | 0, j => by
    show (if kp m d (j * m) then [j * m] else []) = _
    simp [List.filter_cons, Nat.mul_comm]
  | b + 1, j => by
    show ((List.range m).flatMap fun c => sgl m d (b + 1) (j * m + c)) = _
    simp only [sgl_is m d b]
    rw [Nat.pow_succ, Nat.mul_comm (m ^ b) m, ← range_flat (m ^ b) m, List.map_flatMap, List.filter_flatMap]
    congr 1
    funext c
    rw [List.map_map]
    congr 2
    funext k
    show m * ((j * m + c) * m ^ b + k) = m * (j * (m * m ^ b) + (c * m ^ b + k))
    rw [Nat.add_mul, Nat.mul_assoc, Nat.add_assoc]
theorem sgl_all (m d : Nat) (hd : 1 ≤ d) : sgl m d d 0 = nl m d (m ^ (d - 1)) := by
  obtain ⟨b, rfl⟩ : ∃ b, d = b + 1 := ⟨d - 1, by omega⟩
  rw [sgl_is]
  simp [nl]
/-- A sum over the elements. -/
def smN (g : Nat → Nat) : Nat → Nat
  | 0 => 0
  | k + 1 => smN g k + g k
/-- Those that permute with the value 0 at 0, counted by a tree. -/
def zcl (m d : Nat) : Nat → Nat → Nat
  | 0, _ => 0
  | 1, j => if pp m d (j * m) then 1 else 0
  | b + 2, j => smN (fun c => zcl m d (b + 1) (j * m + c)) m
/-- The values so far, for the next coefficient. -/
def stpA (m c : Nat) : Nat → List Int → List Int
  | _, [] => []
  | x, t :: l => addF m (mulF m t x) c :: stpA m c (x + 1) l
def stp (m : Nat) (T : List Int) (c : Nat) : List Int := stpA m c 0 T
theorem stpA_fl (m c : Nat) : ∀ (n x : Nat) (f : Nat → Int), stpA m c x (fl f n) = fl (fun i => addF m (mulF m (f i) ((x + i : Nat) : Int)) c) n
  | 0, _, _ => rfl
  | n + 1, x, f => by
    rw [fl_cons, fl_cons]
    show _ :: stpA m c (x + 1) (fl (fun i => f (i + 1)) n) = _
    rw [stpA_fl m c n (x + 1)]
    congr 1
    refine fl_congr fun i _ => ?_
    rw [show x + 1 + i = x + (i + 1) by omega]
/-- No two alike. -/
def ndp : List Int → Bool
  | [] => true
  | a :: l => (l.all fun b => !decide (a = b)) && ndp l
/-- The count, by values alone. -/
def cl (m : Nat) : Nat → List Int → Nat
  | 0, _ => 0
  | 1, T => if ndp (stp m T 0) then 1 else 0
  | b + 2, T => smN (fun c => cl m (b + 1) (stp m T c)) m
/-- Of those with the second coefficient 0 alone, where it is asked. -/
def cn (m d : Nat) (T : List Int) : Nat := if d = 1 ∨ ((d : Nat) : Int) % pr m = 0 then cl m d T else cl m (d - 1) (stp m T 0)
theorem ndp_iff (l : List Int) : ndp l = true ↔ l.Nodup := by
  induction l with
  | nil => simp [ndp]
  | cons a l ih =>
    rw [ndp, Bool.and_eq_true, ih, List.nodup_cons]
    constructor
    · rintro ⟨h1, h2⟩
      refine ⟨fun hm => ?_, h2⟩
      have := List.all_eq_true.1 h1 a hm
      simp at this
    · rintro ⟨h1, h2⟩
      refine ⟨List.all_eq_true.2 fun b hb => ?_, h2⟩
      have : a ≠ b := fun e => h1 (e ▸ hb)
      simp [this]
theorem dis_ndp (t : Nat → Int) (m : Nat) : dis t m = ndp (fl t m) := by
  rw [Bool.eq_iff_iff, dis_iff, ndp_iff]
  unfold List.Nodup
  rw [List.pairwise_iff_getElem]
  constructor
  · intro h i j hi hj hij
    rw [fl_len] at hi hj
    simp only [fl, List.getElem_map, List.getElem_range]
    exact h j hj i hij
  · intro h i hi j hj
    have := h j i (by rw [fl_len]; omega) (by rw [fl_len]; omega) hj
    simp only [fl, List.getElem_map, List.getElem_range] at this
    exact this
/-- The values so far. -/
def tv (m d b j : Nat) : List Int := fl (fun x => hor (m : Int) (x : Int) (pf m d (j * m ^ b)) (d + 1) (d + 1 - b)) m
theorem tv_zero (m d j : Nat) : tv m d 0 j = fl (tabF (m : Int) (pf m d j) (d + 1)) m := by
  simp [tv]
  rfl
theorem hor_congr' {q x : Int} {f g : Nat → Int} {n : Nat} : ∀ k, k ≤ n → (∀ i, n - k ≤ i → i < n → f i = g i) → hor q x f n k = hor q x g n k
  | 0, _, _ => rfl
  | k + 1, hk, h => by
    show addF q (mulF q (hor q x f n k) x) (f (n - 1 - k)) = addF q (mulF q (hor q x g n k) x) (g (n - 1 - k))
    rw [hor_congr' k (by omega) (fun i h1 h2 => h i (by omega) h2), h (n - 1 - k) (by omega) (by omega)]
theorem tv_step {m d b j c : Nat} (hm : 2 ≤ m) (hb : b < d) (hc : c < m) : stp m (tv m d (b + 1) j) c = tv m d b (j * m + c) := by
  unfold stp tv
  rw [stpA_fl]
  refine fl_congr fun x _ => ?_
  rw [Nat.zero_add]
  obtain ⟨k, hk⟩ : ∃ k, d + 1 - (b + 1) = k := ⟨_, rfl⟩
  rw [hk, show d + 1 - b = k + 1 by omega]
  show _ = addF m (mulF m (hor (m : Int) (x : Int) (pf m d ((j * m + c) * m ^ b)) (d + 1) k) x) (pf m d ((j * m + c) * m ^ b) (d + 1 - 1 - k))
  have e1 : pf m d ((j * m + c) * m ^ b) (d + 1 - 1 - k) = c := by
    rw [show d + 1 - 1 - k = b by omega, ← pf_put (j := j) hm hb hc hc, upd_at]
  have e2 : hor (m : Int) (x : Int) (pf m d (j * m ^ (b + 1))) (d + 1) k = hor (m : Int) (x : Int) (pf m d ((j * m + c) * m ^ b)) (d + 1) k := by
    refine hor_congr' k (by omega) fun i h1 h2 => ?_
    have e0 : j * m ^ (b + 1) = (j * m + 0) * m ^ b := by rw [Nat.pow_succ, Nat.mul_comm (m ^ b) m, ← Nat.mul_assoc, Nat.add_zero]
    rw [e0, ← pf_put (j := j) (c := 0) hm hb (by omega) hc, upd_ne _ _ _ _ (by omega)]
  rw [e1, e2]
theorem smN_congr {g h : Nat → Nat} : ∀ {n : Nat}, (∀ i, i < n → g i = h i) → smN g n = smN h n
  | 0, _ => rfl
  | n + 1, e => by rw [smN, smN, smN_congr fun i hi => e i (by omega), e n (by omega)]
theorem zcl_cl {m d : Nat} (hm : 2 ≤ m) : ∀ b j, b + 1 ≤ d → zcl m d (b + 1) j = cl m (b + 1) (tv m d (b + 1) j)
  | 0, j, hb => by
    show (if pp m d (j * m) then 1 else 0) = if ndp (stp m (tv m d 1 j) 0) then 1 else 0
    rw [tv_step hm (by omega) (by omega), tv_zero, ← dis_ndp]
    rfl
  | b + 1, j, hb => by
    show smN (fun c => zcl m d (b + 1) (j * m + c)) m = smN (fun c => cl m (b + 1) (stp m (tv m d (b + 2) j) c)) m
    refine smN_congr fun c hc => ?_
    rw [tv_step hm (by omega) hc, zcl_cl hm b _ (by omega)]
theorem smN_sum (g : Nat → Nat) (n : Nat) : smN g n = ((List.range n).map g).sum := by
  induction n with
  | zero => rfl
  | succ n ih => rw [smN, ih, List.range_succ]; simp
theorem zcl_is (m d : Nat) : ∀ b j, zcl m d (b + 1) j = (((List.range (m ^ b)).map (fun k => m * (j * m ^ b + k))).filter (pp m d)).length
  | 0, j => by
    show (if pp m d (j * m) then 1 else 0) = _
    rw [Nat.mul_comm j m]
    simp [List.filter_cons]
    split <;> rfl
  | b + 1, j => by
    show smN (fun c => zcl m d (b + 1) (j * m + c)) m = _
    simp only [zcl_is m d b]
    rw [smN_sum, Nat.pow_succ, Nat.mul_comm (m ^ b) m, ← range_flat (m ^ b) m, List.map_flatMap, List.filter_flatMap, List.length_flatMap]
    congr 2
    funext c
    rw [List.map_map]
    congr 3
    funext k
    show m * ((j * m + c) * m ^ b + k) = m * (j * (m * m ^ b) + (c * m ^ b + k))
    rw [Nat.add_mul, Nat.mul_assoc, Nat.add_assoc]
/-- At multiples of m the normal ones are told by the second coefficient. -/
theorem nrm_pf {m d k : Nat} (h : isSz (m : Int) = true) (hd : 1 ≤ d) : nrm m (pf m d (m * k)) (d + 1) = (decide (d = 1 ∨ ((d : Nat) : Int) % pr m = 0) || decide (pf m d (m * k) (d - 1) = 0)) := by
  have hq := isSz_le (m : Int) h
  have h0 : pf m d (m * k) 0 = 0 := by
    unfold pf
    rw [if_pos (by omega)]
    simp
  have h1 : pf m d (m * k) (d + 1 - 1) = 1 := pf_top m d _
  by_cases hp : ((d + 1 - 1 : Nat) : Int) % pr m = 0
  · rw [nrm_div (by omega) h1 h0 hp]
    have : ((d : Nat) : Int) % pr m = 0 := hp
    simp [this]
  · have hp' : ¬ ((d : Nat) : Int) % pr m = 0 := hp
    by_cases h2 : d = 1
    · subst h2
      rw [nrm_two h1 h0]
      simp
    · rw [nrm_more (by omega) h1 h0 hp (by omega)]
      simp [h2, hp', show d + 1 - 2 = d - 1 by omega]
theorem mul_split {m : Nat} (x : Nat) (h : 1 ≤ m) : m * x = x + (m - 1) * x := by
  obtain ⟨k, rfl⟩ : ∃ k, m = k + 1 := ⟨m - 1, by omega⟩
  rw [Nat.succ_mul, Nat.add_sub_cancel, Nat.add_comm]
theorem nl_count {m d : Nat} (h : isSz (m : Int) = true) (hd : 1 ≤ d) : (nl m d (m ^ (d - 1))).length = cn m d (tv m d d 0) := by
  have hq := isSz_le (m : Int) h
  have hm : 2 ≤ m := by omega
  unfold cn
  by_cases hc : d = 1 ∨ ((d : Nat) : Int) % pr m = 0
  · rw [if_pos hc]
    obtain ⟨b, rfl⟩ : ∃ b, d = b + 1 := ⟨d - 1, by omega⟩
    rw [← zcl_cl hm b 0 (by omega), zcl_is]
    unfold nl
    rw [Nat.add_sub_cancel]
    simp only [Nat.zero_mul, Nat.zero_add]
    congr 1
    refine List.filter_congr fun x hx => ?_
    obtain ⟨k, _, rfl⟩ := List.mem_map.1 hx
    unfold kp
    rw [nrm_pf h (by omega), decide_eq_true hc]
    rfl
  · rw [if_neg hc]
    obtain ⟨b, rfl⟩ : ∃ b, d = b + 2 := ⟨d - 2, by
      have : d ≠ 1 := fun e => hc (.inl e)
      omega⟩
    have hp : 0 < m ^ b := Nat.pow_pos (by omega)
    show _ = cl m (b + 1) (stp m (tv m (b + 2) (b + 2) 0) 0)
    rw [tv_step hm (by omega) (by omega), ← zcl_cl hm b _ (by omega), zcl_is]
    unfold nl
    have hs : m ^ (b + 2 - 1) = m ^ b + (m - 1) * m ^ b := by
      rw [show b + 2 - 1 = b + 1 by omega, Nat.pow_succ, Nat.mul_comm]
      exact mul_split _ (by omega)
    rw [hs, List.range_add, List.map_append, List.filter_append, List.length_append]
    simp only [Nat.zero_mul, Nat.zero_add]
    have e2 : (((List.range ((m - 1) * m ^ b)).map (m ^ b + ·)).map (fun i => m * i)).filter (kp m (b + 2)) = [] := by
      refine List.filter_eq_nil_iff.2 fun x hx => ?_
      rw [List.map_map] at hx
      obtain ⟨k, hk, rfl⟩ := List.mem_map.1 hx
      have hk' := List.mem_range.1 hk
      show ¬ kp m (b + 2) (m * (m ^ b + k)) = true
      unfold kp
      rw [nrm_pf h (by omega), decide_eq_false hc]
      have h1 : 1 + k / m ^ b < m := by
        have : k / m ^ b < m - 1 := (Nat.div_lt_iff_lt_mul hp).2 hk'
        omega
      have h2 : pf m (b + 2) (m * (m ^ b + k)) (b + 2 - 1) = ((1 + k / m ^ b : Nat) : Int) := by
        unfold pf
        rw [if_pos (by omega), show b + 2 - 1 = b + 1 by omega, Nat.pow_succ, Nat.mul_comm (m ^ b) m, ← Nat.div_div_eq_div_mul, Nat.mul_div_cancel_left _ (by omega), Nat.add_div_left _ hp, Nat.add_comm (k / m ^ b) 1, Nat.mod_eq_of_lt h1]
      rw [h2]
      generalize k / m ^ b = y at *
      rw [decide_eq_false (show ¬ ((1 + y : Nat) : Int) = 0 by omega)]
      simp
    rw [e2]
    simp only [List.length_nil, Nat.add_zero]
    congr 1
    refine List.filter_congr fun x hx => ?_
    obtain ⟨k, hk, rfl⟩ := List.mem_map.1 hx
    have hk' := List.mem_range.1 hk
    unfold kp
    rw [nrm_pf h (by omega)]
    have h0 : pf m (b + 2) (m * k) (b + 2 - 1) = 0 := by
      unfold pf
      rw [if_pos (by omega), show b + 2 - 1 = b + 1 by omega, Nat.pow_succ, Nat.mul_comm (m ^ b) m, ← Nat.div_div_eq_div_mul, Nat.mul_div_cancel_left _ (by omega), Nat.div_eq_of_lt hk']
      simp
    rw [h0]
    simp
/-- How many have one normal form, less by their first coefficient and the value at 0. -/
def fmN (m d : Nat) : Nat := if 1 < d ∧ ¬ ((d : Nat) : Int) % pr m = 0 then m else 1
/-- The same over natural numbers, for a prime. -/
def stpN (m c : Nat) : Nat → List Nat → List Nat
  | _, [] => []
  | x, t :: l => (t * x + c) % m :: stpN m c (x + 1) l
def ndpN : List Nat → Bool
  | [] => true
  | a :: l => (l.all fun b => !(Nat.beq a b)) && ndpN l
def clN (m : Nat) : Nat → List Nat → Nat
  | 0, _ => 0
  | 1, T => if ndpN (stpN m 0 0 T) then 1 else 0
  | b + 2, T => smN (fun c => clN m (b + 1) (stpN m c 0 T)) m
def toI : List Nat → List Int
  | [] => []
  | t :: l => (t : Int) :: toI l
theorem step_N : ∀ m ∈ [2, 3, 5, 7], ∀ t ∈ List.range m, ∀ x ∈ List.range m, ∀ c ∈ List.range m, addF (m : Nat) (mulF (m : Nat) (t : Nat) (x : Nat)) (c : Nat) = (((t * x + c) % m : Nat) : Int) := by decide +kernel
theorem stpA_N {m c : Nat} (hm : m ∈ [2, 3, 5, 7]) (hc : c < m) : ∀ (l : List Nat) (x : Nat), x + l.length ≤ m → (∀ t ∈ l, t < m) → stpA m c x (toI l) = toI (stpN m c x l)
  | [], _, _, _ => rfl
  | t :: l, x, hx, hl => by
    rw [List.length_cons] at hx
    show addF m (mulF m t x) c :: stpA m c (x + 1) (toI l) = (((t * x + c) % m : Nat) : Int) :: toI (stpN m c (x + 1) l)
    rw [step_N m hm t (List.mem_range.2 (hl t (by simp))) x (List.mem_range.2 (by omega)) c (List.mem_range.2 hc), stpA_N hm hc l (x + 1) (by omega) fun u hu => hl u (by simp [hu])]
theorem stpN_len (m c : Nat) : ∀ (l : List Nat) (x : Nat), (stpN m c x l).length = l.length
  | [], _ => rfl
  | t :: l, x => by simp [stpN, stpN_len m c l (x + 1)]
theorem stpN_lt {m c : Nat} (h : 0 < m) : ∀ (l : List Nat) (x : Nat), ∀ t ∈ stpN m c x l, t < m
  | [], _, t, ht => by simp [stpN] at ht
  | u :: l, x, t, ht => by
    simp only [stpN, List.mem_cons] at ht
    rcases ht with rfl | ht
    · exact Nat.mod_lt _ h
    · exact stpN_lt h l (x + 1) t ht
theorem ndp_N (l : List Nat) : ndp (toI l) = ndpN l := by
  induction l with
  | nil => rfl
  | cons a l ih =>
    show ((toI l).all (fun b => !decide ((a : Int) = b)) && ndp (toI l)) = ((l.all fun b => !(Nat.beq a b)) && ndpN l)
    rw [ih]
    congr 1
    have hb : ∀ b : Nat, (!decide ((a : Int) = (b : Int))) = !(Nat.beq a b) := fun b => by
      congr 1
      rw [Bool.eq_iff_iff, decide_eq_true_iff, Nat.beq_eq]
      omega
    clear ih
    induction l with
    | nil => rfl
    | cons b l ih =>
      show ((!decide ((a : Int) = (b : Int))) && (toI l).all fun b => !decide ((a : Int) = b)) = ((!(Nat.beq a b)) && l.all fun b => !(Nat.beq a b))
      rw [hb, ih]
theorem cl_N {m : Nat} (hm : m ∈ [2, 3, 5, 7]) : ∀ (b : Nat) (l : List Nat), l.length ≤ m → (∀ t ∈ l, t < m) → cl m b (toI l) = clN m b l
  | 0, _, _, _ => rfl
  | 1, l, hl, ht => by
    have hp : 0 < m := by
      simp at hm
      omega
    show (if ndp (stpA m 0 0 (toI l)) then 1 else 0) = if ndpN (stpN m 0 0 l) then 1 else 0
    rw [stpA_N hm hp l 0 (by omega) ht, ndp_N]
  | b + 2, l, hl, ht => by
    have hp : 0 < m := by
      simp at hm
      omega
    show smN (fun c => cl m (b + 1) (stpA m c 0 (toI l))) m = smN (fun c => clN m (b + 1) (stpN m c 0 l)) m
    refine smN_congr fun c hc => ?_
    rw [stpA_N hm hc l 0 (by omega) ht, cl_N hm (b + 1) _ (by rw [stpN_len]; exact hl) (stpN_lt hp l 0)]
def cnN (m d : Nat) (l : List Nat) : Nat := if d = 1 ∨ ((d : Nat) : Int) % pr m = 0 then clN m d l else clN m (d - 1) (stpN m 0 0 l)
theorem cn_N {m d : Nat} (hm : m ∈ [2, 3, 5, 7]) (l : List Nat) (hl : l.length ≤ m) (ht : ∀ t ∈ l, t < m) : cn m d (toI l) = cnN m d l := by
  have hp : 0 < m := by
    simp at hm
    omega
  unfold cn cnN
  split
  · exact cl_N hm d l hl ht
  · rw [show stp m (toI l) 0 = stpA m 0 0 (toI l) from rfl, stpA_N hm hp l 0 (by omega) ht, cl_N hm (d - 1) _ (by rw [stpN_len]; exact hl) (stpN_lt hp l 0)]
/-- The first values: those of 1. -/
theorem tv_first {m d : Nat} (h : isSz (m : Int) = true) : tv m d d 0 = toI (List.replicate m 1) := by
  have hq := isSz_le (m : Int) h
  unfold tv
  have : fl (fun x => hor (m : Int) (x : Int) (pf m d (0 * m ^ d)) (d + 1) (d + 1 - d)) m = fl (fun _ => 1) m := by
    refine fl_congr fun x hx => ?_
    rw [show d + 1 - d = 0 + 1 by omega]
    show addF m (mulF m 0 x) (pf m d (0 * m ^ d) (d + 1 - 1 - 0)) = 1
    rw [show d + 1 - 1 - 0 = d by omega, pf_top, (mul_zero' h (El.nat hx)).1, (add_zero' h (El.one h)).2]
  rw [this]
  have hr : ∀ n, fl (fun _ => 1) n = toI (List.replicate n 1) := fun n => by
    induction n with
    | zero => rfl
    | succ n ih => rw [fl_cons, List.replicate_succ, ih]; rfl
  exact hr m
set_option maxHeartbeats 4000000 in
theorem cn_prime : ∀ m ∈ [2, 3, 5, 7], ∀ d ∈ List.range m, 0 < d → clN m d (List.replicate m 1) = cnN m d (List.replicate m 1) * fmN m d ∧ cnN m d (List.replicate m 1) ≤ 40 := by decide +kernel
theorem cn_four : ∀ d ∈ List.range 4, 0 < d → cl 4 d (toI (List.replicate 4 1)) = cn 4 d (toI (List.replicate 4 1)) * fmN 4 d ∧ cn 4 d (toI (List.replicate 4 1)) ≤ 40 := by decide +kernel
theorem cl_cn {m d : Nat} (h : isSz (m : Int) = true) (h7 : m ≤ 7) (hd : 1 ≤ d) (hdm : d < m) : cl m d (tv m d d 0) = cn m d (tv m d d 0) * fmN m d ∧ cn m d (tv m d d 0) ≤ 40 := by
  have hk := sz_split (m : Int) h
  rw [tv_first h]
  by_cases h4 : m = 4
  · subst h4
    exact cn_four d (List.mem_range.2 hdm) (by omega)
  · have hm : m ∈ [2, 3, 5, 7] := by
      have : m = 2 ∨ m = 3 ∨ m = 5 ∨ m = 7 := by omega
      simpa using this
    have hl : (List.replicate m 1).length ≤ m := by simp
    have ht : ∀ t ∈ List.replicate m 1, t < m := fun t ht => by
      rw [(List.mem_replicate.1 ht).2]
      omega
    rw [cl_N hm d _ hl ht, cn_N hm _ hl ht]
    exact cn_prime m hm d (List.mem_range.2 hdm) (by omega)
/-- All that permute with the value 0 at 0, told by the normal ones. -/
theorem zcl_nl {m d : Nat} (h : isSz (m : Int) = true) (h7 : m ≤ 7) (hd : 1 ≤ d) (hdm : d < m) : zcl m d d 0 = (nl m d (m ^ (d - 1))).length * fmN m d := by
  have hq := isSz_le (m : Int) h
  rw [nl_count h hd]
  obtain ⟨b, hb⟩ : ∃ b, d = b + 1 := ⟨d - 1, by omega⟩
  have e : zcl m d d 0 = cl m d (tv m d d 0) := by
    subst hb
    exact zcl_cl (by omega) b 0 (by omega)
  rw [e]
  exact (cl_cn h h7 hd hdm).1
/-- And there are few. -/
theorem nl_few {m d : Nat} (h : isSz (m : Int) = true) (h7 : m ≤ 7) (hd : 1 ≤ d) (hdm : d < m) : (nl m d (m ^ (d - 1))).length ≤ 40 := by
  rw [nl_count h hd]
  exact (cl_cn h h7 hd hdm).2
end Go.Proofs.Ytnmdcmbcackchab
