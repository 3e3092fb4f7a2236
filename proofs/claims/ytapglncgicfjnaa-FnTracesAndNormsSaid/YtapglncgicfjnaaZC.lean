/- Facts on powers, logs, orders and sums of powers; what the general law FnPowersAndLogs asks, by contracts. -/
import Derived.Test.YtapglncgicfjnaaZA
import Derived.Test.YtapglncgicfjnaaZB
import Derived.Test.YtapglncgicfjnaaKR
import Derived.Test.YtapglncgicfjnaaBB
import Derived.Test.YtapglncgicfjnaaCD
import Derived.Test.YtapglncgicfjnaaEC
import Derived.Test.YtapglncgicfjnaaFJ
namespace Go.Proofs.Ytapglncgicfjnaa
open Go.RowKit
theorem inE_ofZ {q x : Int} (h : isSz q = true) (hx : El q x) : inE q x = true := by
  simp [inE, h, hx.1, hx.2]
theorem inE_elZ {q a : Int} (h : inE q a = true) : El q a := ⟨(inE_yes h).2.1, (inE_yes h).2.2⟩
theorem inN_ofZ {q x : Int} (h : isSz q = true) (hx : El q x) (h0 : x ≠ 0) : inN q x = true := by
  simp [inN, inE_ofZ h hx, h0]
set_option maxRecDepth 100000 in
theorem inv_left {q a : Int} (h : isSz q = true) (ha : El q a) (h0 : a ≠ 0) : mulF q (invF q a) a = 1 :=
  (of_decide_eq_true (of_chk1 (f := fun q x => decide (x = 0 ∨ mulF q (invF q x) x = 1)) (by decide +kernel) q a h ha.1 ha.2)).resolve_left h0
theorem powR_next {q a k : Int} (h : isSz q = true) (ha : El q a) (h0 : k < 0 → a ≠ 0) : powR q a (k + 1) = mulF q (powR q a k) a := by
  unfold powR
  by_cases hk : k < 0
  · have hi := inv_left h ha (h0 hk)
    have hb := invF_bd q a h ha.1 ha.2
    obtain ⟨n, hn⟩ : ∃ n : Nat, k = -((n : Int) + 1) := ⟨(-k - 1).toNat, by omega⟩
    have e1 : (-k).toNat = n + 1 := by omega
    have hp := pw_bd q _ h hb.1 hb.2 n
    rw [if_pos hk, e1, show pw q (invF q a) (n + 1) = mulF q (pw q (invF q a) n) (invF q a) from rfl, mulF_assoc q _ _ a h hp.1 hp.2 hb.1 hb.2 ha.1 ha.2, hi, (mulF_one q _ h hp.1 hp.2).2.1]
    by_cases hk1 : k + 1 < 0
    · rw [if_pos hk1, show (-(k + 1)).toNat = n by omega]
    · rw [if_neg hk1, show (k + 1).toNat = 0 by omega, show n = 0 by omega]
      rfl
  · rw [if_neg hk, if_neg (by omega), show (k + 1).toNat = k.toNat + 1 by omega]
    rfl
theorem powR_nat {q a : Int} (n : Nat) : powR q a (n : Int) = pw q a n := by
  unfold powR
  rw [if_neg (by omega), Int.toNat_natCast]
theorem inP_of {q a k : Int} (ha : inE q a = true) (h0 : -1000 ≤ k) (h1 : k ≤ 1000) (h2 : k < 0 → a ≠ 0) : inP q a k = true := by
  simp only [inP, ha, Bool.true_and, Bool.and_eq_true, decide_eq_true_eq, Bool.not_eq_true', Bool.and_eq_false_iff, decide_eq_false_iff_not]
  exact ⟨h0, h1, by by_cases hk : k < 0; exact .inr (h2 hk); exact .inl hk⟩
theorem impl_PowerOf_yesZ (q a k : Int) (w : World) (h : inP q a k = true) :
    Calls Try.prog 24 #[.int .i64 q, .int .i64 a, .int .i64 k] w fun e w' => e = .returned (.tuple #[.int .i64 (powR q a k), .bool true]) ∧ Below w.heap.size w w' := by
  obtain ⟨ha, k0, k1, h0⟩ := inP_yes h
  by_cases hk : k < 0
  · exact impl_PowerOf_neg q a k w ha k0 hk (h0 hk)
  · exact impl_PowerOf_pos q a k w ha (by omega) k1
theorem impl_PowerOf_noZ (q a k : Int) (w : World) (h : inP q a k = false) :
    Calls Try.prog 24 #[.int .i64 q, .int .i64 a, .int .i64 k] w fun e w' => e = .returned (.tuple #[.int .i64 0, .bool false]) ∧ Below w.heap.size w w' := by
  rcases inP_no h with h | ⟨h, h1⟩ | ⟨h, h1, h2⟩ | ⟨h, h1, h2, h3⟩
  · exact impl_PowerOf_no1 q a k w h
  · exact impl_PowerOf_no2 q a k w h h1
  · exact impl_PowerOf_no3 q a k w h h1 h2
  · exact impl_PowerOf_no4 q a k w h h1 h2 h3
theorem spec_PowerOf_yesZ (q a k : Int) (w : World) (h : inP q a k = true) :
    Calls Try.prog 25 #[.int .i64 q, .int .i64 a, .int .i64 k] w fun e w' => e = .returned (.tuple #[.int .i64 (powR q a k), .bool true]) ∧ Below w.heap.size w w' := by
  obtain ⟨ha, k0, k1, h0⟩ := inP_yes h
  by_cases hk : k < 0
  · exact spec_PowerOf_neg q a k w ha k0 hk (h0 hk)
  · by_cases hz : a = 0
    · exact spec_PowerOf_pos0 q a k w ha (by omega) k1 hz
    · exact spec_PowerOf_pos1 q a k w ha (by omega) k1 hz
theorem spec_PowerOf_noZ (q a k : Int) (w : World) (h : inP q a k = false) :
    Calls Try.prog 25 #[.int .i64 q, .int .i64 a, .int .i64 k] w fun e w' => e = .returned (.tuple #[.int .i64 0, .bool false]) ∧ Below w.heap.size w w' := by
  rcases inP_no h with h | ⟨h, h1⟩ | ⟨h, h1, h2⟩ | ⟨h, h1, h2, h3⟩
  · exact spec_PowerOf_no1 q a k w h
  · exact spec_PowerOf_no2 q a k w h h1
  · exact spec_PowerOf_no3 q a k w h h1 h2
  · exact spec_PowerOf_no4 q a k w h h1 h2 h3
/-- What the law asks of PowerOf. -/
theorem ask_Power (q a k : Int) : ∃ (p n : Int) (o : Bool),
    (∀ w, Calls Try.prog 24 #[.int .i64 q, .int .i64 a, .int .i64 k] w fun e w' => e = .returned (.tuple #[.int .i64 p, .bool o]) ∧ Below w.heap.size w w') ∧
    (∀ w, Calls Try.prog 25 #[.int .i64 q, .int .i64 a, .int .i64 k] w fun e w' => e = .returned (.tuple #[.int .i64 p, .bool o]) ∧ Below w.heap.size w w') ∧
    (o = true → k < 1000 → (0 < a ∨ 0 ≤ k) ∧ IntKind.i64.wrap (k + 1) = k + 1 ∧
      (∀ w, Calls Try.prog 24 #[.int .i64 q, .int .i64 a, .int .i64 (k + 1)] w fun e w' => e = .returned (.tuple #[.int .i64 n, .bool true]) ∧ Below w.heap.size w w') ∧
      TT q p a n) := by
  cases h : inP q a k with
  | false => exact ⟨0, 0, false, fun w => impl_PowerOf_noZ q a k w h, fun w => spec_PowerOf_noZ q a k w h, fun e => by cases e⟩
  | true =>
    obtain ⟨ha, k0, k1, h0⟩ := inP_yes h
    obtain ⟨hs, _, _⟩ := inE_yes ha
    have ea := inE_elZ ha
    refine ⟨powR q a k, powR q a (k + 1), true, fun w => impl_PowerOf_yesZ q a k w h, fun w => spec_PowerOf_yesZ q a k w h, fun _ hk => ⟨by have := ea.1; by_cases hk0 : k < 0; have := h0 hk0; omega; omega, IntWalk.i64_in _ (by omega), fun w => impl_PowerOf_yesZ q a (k + 1) w (inP_of ha (by omega) (by omega) fun hk => h0 (by omega)), ?_⟩⟩
    exact TT.of hs (powR_bd q a k hs ea.1 ea.2) ea (powR_next hs ea h0).symm
set_option maxRecDepth 100000 in
theorem log_bd {q x : Int} (h : isSz q = true) (hx : El q x) (h0 : x ≠ 0) : (logN q x : Int) ≤ q - 2 :=
  (of_decide_eq_true (of_chk1 (f := fun q x => decide (x = 0 ∨ (logN q x : Int) ≤ q - 2)) (by decide +kernel) q x h hx.1 hx.2)).resolve_left h0
set_option maxRecDepth 100000 in
theorem ord_div {q x : Int} (h : isSz q = true) (hx : El q x) (h0 : x ≠ 0) : (q - 1) % (ordN q x : Int) = 0 :=
  (of_decide_eq_true (of_chk1 (f := fun q x => decide (x = 0 ∨ (q - 1) % (ordN q x : Int) = 0)) (by decide +kernel) q x h hx.1 hx.2)).resolve_left h0
/-- What the law asks of OrderOf and LogOf. -/
theorem ask_Order (r x : Int) : ∃ (d l g : Int) (o : Bool),
    (∀ w, Calls Try.prog 28 #[.int .i64 r, .int .i64 x] w fun e w' => e = .returned (.tuple #[.int .i64 d, .bool o]) ∧ Below w.heap.size w w') ∧
    (∀ w, Calls Try.prog 29 #[.int .i64 r, .int .i64 x] w fun e w' => e = .returned (.tuple #[.int .i64 d, .bool o]) ∧ Below w.heap.size w w') ∧
    (∀ w, Calls Try.prog 30 #[.int .i64 r, .int .i64 x] w fun e w' => e = .returned (.tuple #[.int .i64 l, .bool o]) ∧ Below w.heap.size w w') ∧
    (∀ w, Calls Try.prog 31 #[.int .i64 r, .int .i64 x] w fun e w' => e = .returned (.tuple #[.int .i64 l, .bool o]) ∧ Below w.heap.size w w') ∧
    (o = true → (2 ≤ r ∧ r ≤ 16) ∧ 0 ≤ l ∧ l ≤ r - 2 ∧ (1 ≤ d ∧ d ≤ 16) ∧ (r - 1) % d = 0 ∧
      (∀ w, Calls Try.prog 32 #[.int .i64 r] w fun e w' => e = .returned (.tuple #[.int .i64 g, .bool true]) ∧ Below w.heap.size w w') ∧
      (∀ w, Calls Try.prog 24 #[.int .i64 r, .int .i64 g, .int .i64 l] w fun e w' => e = .returned (.tuple #[.int .i64 x, .bool true]) ∧ Below w.heap.size w w') ∧
      (∀ w, Calls Try.prog 24 #[.int .i64 r, .int .i64 x, .int .i64 d] w fun e w' => e = .returned (.tuple #[.int .i64 1, .bool true]) ∧ Below w.heap.size w w') ∧
      ∃ (m : Nat) (Y : Nat → Int), d = (m : Int) ∧ ∀ i : Nat, 1 ≤ i → i < m → Y i ≠ 1 ∧ ∀ w, Calls Try.prog 24 #[.int .i64 r, .int .i64 x, .int .i64 (i : Int)] w fun e w' => e = .returned (.tuple #[.int .i64 (Y i), .bool true]) ∧ Below w.heap.size w w') := by
  cases he : inE r x with
  | false => exact ⟨0, 0, 0, false, fun w => impl_OrderOf_no1 r x w he, fun w => spec_OrderOf_no1 r x w he, fun w => impl_LogOf_no1 r x w he, fun w => spec_LogOf_no1 r x w he, fun e => by cases e⟩
  | true =>
    have hs := (inE_yes he).1
    have ex := inE_elZ he
    by_cases h0 : x = 0
    · subst h0
      exact ⟨0, 0, 0, false, fun w => impl_OrderOf_no2 r w hs, fun w => spec_OrderOf_no2 r w he, fun w => impl_LogOf_no2 r w hs, fun w => spec_LogOf_no2 r w he, fun e => by cases e⟩
    · have hn := inN_ofZ hs ex h0
      have hq := isSz_le r hs
      have hx0 : 0 < x := by have := ex.1; omega
      obtain ⟨_, g0, g1, _, _⟩ := firstP_spec r hs
      have eg : El r (firstP r) := ⟨by omega, g1⟩
      obtain ⟨o1, o2, o3⟩ := ordN_spec r x hs hx0 ex.2
      have hl := log_bd hs ex h0
      refine ⟨(ordN r x : Int), (logN r x : Int), firstP r, true, fun w => impl_OrderOf_yes r x w hn, fun w => spec_OrderOf_yes r x w hn, fun w => impl_LogOf_yes r x w hn, fun w => spec_LogOf_yes r x w hn, fun _ =>
        ⟨⟨hq.1, hq.2⟩, by omega, hl, ⟨by omega, by omega⟩, ord_div hs ex h0, fun w => impl_FirstPrimitive_yes r w hs, fun w => ?_, fun w => ?_, ordN r x, fun i => pw r x i, rfl, fun i i1 i2 => ⟨ordN_least r x hs hx0 ex.2 i i1 i2, fun w => ?_⟩⟩⟩
      · have := impl_PowerOf_yesZ r (firstP r) (logN r x : Int) w (inP_of (inE_ofZ hs eg) (by omega) (by omega) fun hk => by omega)
        rw [powR_nat, (logN_spec r x hs hx0 ex.2).1] at this
        exact this
      · have := impl_PowerOf_yesZ r x (ordN r x : Int) w (inP_of he (by omega) (by omega) fun hk => by omega)
        rw [powR_nat, o1] at this
        exact this
      · have := impl_PowerOf_yesZ r x (i : Int) w (inP_of he (by omega) (by omega) fun hk => by omega)
        rw [powR_nat] at this
        exact this
def ascL (l : List Int) : Bool := (List.range l.length).all fun i => decide (i + 1 < l.length → l.getD i 0 < l.getD (i + 1) 0)
theorem ascL_at {l : List Int} (h : ascL l = true) (i : Nat) (hi : i + 1 < l.length) : l.getD i 0 < l.getD (i + 1) 0 :=
  of_decide_eq_true (List.all_eq_true.1 h i (List.mem_range.2 (by omega))) hi
set_option maxRecDepth 100000 in
theorem prims_ok {q : Int} (h : isSz q = true) : ascL (wh (isPr q) q.toNat) = true ∧ ascL (wh (isSqN q) q.toNat) = true ∧ (q % 2 = 0 → ((wh (isSqN q) q.toNat).length : Int) = q) ∧ (q % 2 = 1 → ((wh (isSqN q) q.toNat).length : Int) = (q + 1) / 2) :=
  of_decide_eq_true (of_chk0 (f := fun q => decide (ascL (wh (isPr q) q.toNat) = true ∧ ascL (wh (isSqN q) q.toNat) = true ∧ (q % 2 = 0 → ((wh (isSqN q) q.toNat).length : Int) = q) ∧ (q % 2 = 1 → ((wh (isSqN q) q.toNat).length : Int) = (q + 1) / 2))) (by decide +kernel) q h)
theorem mem_wh {P : Nat → Bool} {n a : Nat} (ha : a < n) : decide ((a : Int) ∈ wh P n) = P a := by
  cases hs : P a with
  | true => exact decide_eq_true (List.mem_map.2 ⟨a, List.mem_filter.2 ⟨List.mem_range.2 ha, hs⟩, rfl⟩)
  | false =>
    refine decide_eq_false fun hm => ?_
    obtain ⟨b, hb, e⟩ := List.mem_map.1 hm
    obtain rfl : b = a := by omega
    have := (List.mem_filter.1 hb).2
    rw [hs] at this
    exact Bool.false_ne_true this
/-- What the law asks of AllPrimitive, FirstPrimitive, SquaresOf. -/
theorem ask_Prims (s : Int) : ∃ (L S : List Int) (g : Int) (o : Bool), L.length ≤ 1048576 ∧ S.length ≤ 1048576 ∧
    (∀ w, Calls Try.prog 34 #[.int .i64 s] w fun e w' => ∃ v, e = .returned (.tuple #[v, .bool o]) ∧ Row w' w.heap.size v L ∧ Below w.heap.size w w') ∧
    (∀ w, Calls Try.prog 35 #[.int .i64 s] w fun e w' => ∃ v, e = .returned (.tuple #[v, .bool o]) ∧ Row w' w.heap.size v L ∧ Below w.heap.size w w') ∧
    (∀ w, Calls Try.prog 32 #[.int .i64 s] w fun e w' => e = .returned (.tuple #[.int .i64 g, .bool o]) ∧ Below w.heap.size w w') ∧
    (∀ w, Calls Try.prog 36 #[.int .i64 s] w fun e w' => e = .returned (.tuple #[.int .i64 g, .bool o]) ∧ Below w.heap.size w w') ∧
    (∀ w, Calls Try.prog 37 #[.int .i64 s] w fun e w' => ∃ v, e = .returned (.tuple #[v, .bool o]) ∧ Row w' w.heap.size v S ∧ Below w.heap.size w w') ∧
    (∀ w, Calls Try.prog 38 #[.int .i64 s] w fun e w' => ∃ v, e = .returned (.tuple #[v, .bool o]) ∧ Row w' w.heap.size v S ∧ Below w.heap.size w w') ∧
    (o = true → ∃ (m : Nat) (O : Nat → Int), s = (m : Int) ∧ 2 ≤ m ∧ m ≤ 16 ∧ 0 < L.length ∧ L.length ≤ 16 ∧ L.getD 0 0 = g ∧ (∀ i, i + 1 < L.length → L.getD i 0 < L.getD (i + 1) 0) ∧ (∀ i, i + 1 < S.length → S.getD i 0 < S.getD (i + 1) 0) ∧
      (s % 2 = 0 → (S.length : Int) = s) ∧ (s % 2 = 1 → (S.length : Int) = (s + 1) / 2) ∧
      ∀ x : Nat, 1 ≤ x → x < m → decide ((x : Int) ∈ L) = decide (O x = s - 1) ∧ ∀ w, Calls Try.prog 28 #[.int .i64 s, .int .i64 (x : Int)] w fun e w' => e = .returned (.tuple #[.int .i64 (O x), .bool true]) ∧ Below w.heap.size w w') := by
  cases h : isSz s with
  | false =>
    exact ⟨[], [], 0, false, by simp, by simp, fun w => (impl_AllPrimitive_no s w h).mono fun _ _ ⟨he, hb⟩ => ⟨_, he, Row.nil _ _, hb⟩, fun w => (spec_AllPrimitive_no s w h).mono fun _ _ ⟨he, hb⟩ => ⟨_, he, Row.nil _ _, hb⟩,
      fun w => impl_FirstPrimitive_no s w h, fun w => spec_FirstPrimitive_no s w h, fun w => (impl_SquaresOf_no s w h).mono fun _ _ ⟨he, hb⟩ => ⟨_, he, Row.nil _ _, hb⟩, fun w => (spec_SquaresOf_no s w h).mono fun _ _ ⟨he, hb⟩ => ⟨_, he, Row.nil _ _, hb⟩, fun e => by cases e⟩
  | true =>
    have hq := isSz_le s h
    obtain ⟨m, rfl⟩ := Int.eq_ofNat_of_zero_le (show 0 ≤ s by omega)
    have l1 := wh_len (isPr (m : Int)) (m : Int).toNat
    have l2 := wh_len (isSqN (m : Int)) (m : Int).toNat
    obtain ⟨f1, _, _, f4, _⟩ := firstP_spec (m : Int) h
    obtain ⟨p1, p2, p3, p4⟩ := prims_ok h
    refine ⟨wh (isPr (m : Int)) (m : Int).toNat, wh (isSqN (m : Int)) (m : Int).toNat, firstP (m : Int), true, by omega, by omega, fun w => impl_AllPrimitive_yes _ w h, fun w => spec_AllPrimitive_yes _ w h,
      fun w => impl_FirstPrimitive_yes _ w h, fun w => spec_FirstPrimitive_yes _ w h, fun w => impl_SquaresOf_yes _ w h, fun w => ?_, fun _ => ⟨m, fun x => (ordN (m : Int) (x : Int) : Int), rfl, by omega, by omega, f4, by omega, f1, ascL_at p1, ascL_at p2, p3, p4, fun x x0 x1 => ⟨?_, fun w => ?_⟩⟩⟩
    · have := spec_SquaresOf_yes (m : Int) w h
      rw [sq_model _ h] at this
      exact this
    · rw [mem_wh (by omega)]
      have hx : (x != 0) = true := by simp; omega
      unfold isPr
      rw [hx, Bool.true_and]
      by_cases e : (ordN (m : Int) (x : Int) : Int) = (m : Int) - 1 <;> simp [e]
    · exact impl_OrderOf_yes (m : Int) (x : Int) w (inN_ofZ h (El.nat x1) (by omega))
theorem pw_turn {q a : Int} (h : isSz q = true) (ha : El q a) (n : Nat) : pw q a (n + q.toNat) = pw q a (n + 1) := by
  have e : pw q a q.toNat = a := of_decide_eq_true (of_chk1 (f := fun q a => decide (pw q a q.toNat = a)) (by decide +kernel) q a h ha.1 ha.2)
  rw [← pw_add q a h ha.1 ha.2, e]
  rfl
theorem pw_red {q a : Int} (h : isSz q = true) (ha : El q a) (j : Nat) : pw q a (j + 1) = pw q a (j % (q.toNat - 1) + 1) := by
  have hq := isSz_le q h
  induction j using Nat.strongRecOn with
  | ind j ih =>
    by_cases hj : j < q.toNat - 1
    · rw [Nat.mod_eq_of_lt hj]
    · have e : j + 1 = (j - (q.toNat - 1)) + q.toNat := by omega
      rw [e, pw_turn h ha, ih (j - (q.toNat - 1)) (by omega), Nat.mod_eq_sub_mod (show j ≥ q.toNat - 1 by omega)]
theorem sumTo_red {q : Int} (h : isSz q = true) (j n : Nat) (hn : (n : Int) ≤ q) : sumTo q (j + 1) n = sumTo q (j % (q.toNat - 1) + 1) n := by
  induction n with
  | zero => rfl
  | succ n ih =>
    show addF q _ _ = addF q _ _
    rw [ih (by omega), pw_red h (El.nat (m := n + 1) (i := n) (Nat.lt_succ_self n) |> fun _ => ⟨by omega, by omega⟩) j]
set_option maxRecDepth 100000 in
theorem sums_ok {q : Int} (h : isSz q = true) : sumTo q 0 q.toNat = 0 ∧ ∀ j, j < q.toNat - 1 → sumTo q (j + 1) q.toNat = if j + 1 = q.toNat - 1 then subF q 0 1 else 0 := by
  have := of_chk0 (f := fun q => decide (sumTo q 0 q.toNat = 0) && (List.range (q.toNat - 1)).all fun j => decide (sumTo q (j + 1) q.toNat = if j + 1 = q.toNat - 1 then subF q 0 1 else 0)) (by decide +kernel) q h
  rw [Bool.and_eq_true] at this
  exact ⟨of_decide_eq_true this.1, fun j hj => of_decide_eq_true (List.all_eq_true.1 this.2 j (List.mem_range.2 hj))⟩
theorem sum_due {q : Int} (h : isSz q = true) (k : Nat) : sumTo q k q.toNat = if 0 < k ∧ k % (q.toNat - 1) = 0 then subF q 0 1 else 0 := by
  have hq := isSz_le q h
  obtain ⟨s0, s1⟩ := sums_ok h
  cases k with
  | zero => rw [s0, if_neg (by omega)]
  | succ j =>
    have hlt : j % (q.toNat - 1) < q.toNat - 1 := Nat.mod_lt _ (by omega)
    rw [sumTo_red h j q.toNat (by omega), s1 _ hlt]
    have key : (j % (q.toNat - 1) + 1 = q.toNat - 1) ↔ (0 < j + 1 ∧ (j + 1) % (q.toNat - 1) = 0) := by
      generalize q.toNat - 1 = n at *
      constructor
      · intro e
        refine ⟨by omega, ?_⟩
        have h1 := Nat.div_add_mod j n
        have h2 : j + 1 = n * (j / n + 1) := by rw [Nat.mul_add]; omega
        rw [h2]
        exact Nat.mul_mod_right _ _
      · rintro ⟨_, e⟩
        have h1 := Nat.div_add_mod j n
        by_cases hs : j % n + 1 = n
        · exact hs
        · have h2 : (j + 1) % n = j % n + 1 := by
            rw [Nat.add_mod]
            by_cases hn1 : n = 1
            · subst hn1; omega
            · rw [Nat.mod_eq_of_lt (a := 1) (by omega), Nat.mod_eq_of_lt (by omega)]
          omega
    simp only [key]
/-- What the law asks of SumOfAll. -/
theorem ask_Sum (t k : Int) : ∃ (v d : Int) (o : Bool),
    (∀ w, Calls Try.prog 43 #[.int .i64 t, .int .i64 k] w fun e w' => e = .returned (.tuple #[.int .i64 v, .bool o]) ∧ Below w.heap.size w w') ∧
    (∀ w, Calls Try.prog 44 #[.int .i64 t, .int .i64 k] w fun e w' => e = .returned (.tuple #[.int .i64 v, .bool o]) ∧ Below w.heap.size w w') ∧
    (o = true → (2 ≤ t ∧ t ≤ 16) ∧ (0 ≤ k ∧ k ≤ 1000) ∧ ((0 < k ∧ k % (t - 1) = 0) → v = d) ∧ (¬ (0 < k ∧ k % (t - 1) = 0) → v = 0) ∧
      (∀ w, Calls Try.prog 45 #[.int .i64 t, .int .i64 0, .int .i64 1] w fun e w' => e = .returned (.tuple #[.int .i64 d, .bool true]) ∧ Below w.heap.size w w')) := by
  cases h : isSz t with
  | false => exact ⟨0, 0, false, fun w => impl_SumOfAll_no1 t k w h, fun w => spec_SumOfAll_no1 t k w h, fun e => by cases e⟩
  | true =>
    have hq := isSz_le t h
    by_cases k0 : 0 ≤ k
    · by_cases k1 : k ≤ 1000
      · obtain ⟨n, rfl⟩ := Int.eq_ofNat_of_zero_le k0
        have hd := sum_due h n
        have e0 : El t 0 := El.zero h
        have e1 : El t 1 := El.one h
        have hc : (0 < (n : Int) ∧ (n : Int) % (t - 1) = 0) ↔ (0 < n ∧ n % (t.toNat - 1) = 0) := by
          obtain ⟨m, rfl⟩ := Int.eq_ofNat_of_zero_le (show 0 ≤ t by omega)
          rw [Int.toNat_natCast, show ((m : Int) - 1) = ((m - 1 : Nat) : Int) by omega]
          omega
        refine ⟨_, subF t 0 1, true, fun w => impl_SumOfAll_yes t n w h k0 k1, fun w => spec_SumOfAll_yes t n w h k0 k1, fun _ => ⟨⟨hq.1, hq.2⟩, ⟨k0, k1⟩, fun hp => ?_, fun hp => ?_, fun w => impl_LessOf_yes t 0 1 w (inE_ofZ h e0) (inE_ofZ h e1)⟩⟩
        · rw [Int.toNat_natCast, hd, if_pos (hc.1 hp)]
        · rw [Int.toNat_natCast, hd, if_neg (fun hx => hp (hc.2 hx))]
      · exact ⟨0, 0, false, fun w => impl_SumOfAll_no3 t k w h k0 k1, fun w => spec_SumOfAll_no3 t k w h k0 k1, fun e => by cases e⟩
    · exact ⟨0, 0, false, fun w => impl_SumOfAll_no2 t k w h k0, fun w => spec_SumOfAll_no2 t k w h k0, fun e => by cases e⟩
end Go.Proofs.Ytapglncgicfjnaa
