/- The cycles of a polynomial, of the program: leastStart, takeCycle, cycles. -/
import Derived.Test.YtommagdddleoiabLW
import Derived.Test.YtommagdddleoiabLC
namespace Go.Proofs.Ytommagdddleoiab
open Go.RowKit Go.Maps
/-- The steps of those that are left, as a map. -/
structure Stp (T : Nat → Nat) (m : Nat) (D : DataW Unit) (S : Nat → Bool) : Prop where
  there : ∀ x, x < m → has D (.int .i64 (x : Nat)) = S x
  val : ∀ x, x < m → S x = true → ∀ z, D.atKey (.int .i64 (x : Nat)) z = .lit (.int .i64 (T x : Nat))
  keys : ∀ kl, has D kl = true → ∃ x, x < m ∧ kl = .int .i64 (x : Nat)
theorem stp_start {t : Nat → Int} {m : Nat} (h : ∀ x, x < m → t x = ((nt t x : Nat) : Int)) : Stp (nt t) m (mp t m) (allS m) :=
  ⟨fun x hx => by rw [mp_has]; simp [allS], fun x hx _ z => by rw [mp_at t m x hx, h x hx], fun kl hk => mp_keys t m kl hk⟩
theorem stp_del {T : Nat → Nat} {m x : Nat} {D : DataW Unit} {S : Nat → Bool} (h : Stp T m D S) : Stp T m (D.del (.int .i64 (x : Nat))) (off S x) := by
  refine ⟨fun y hy => ?_, fun y hy hS z => ?_, fun kl hk => ?_⟩
  · by_cases e : y = x
    · subst e
      rw [has_del_same, off_at]
    · rw [has_del_other (int_lit_ne (by omega)), off_ne _ e]
      exact h.there y hy
  · have e : y ≠ x := fun e => by subst e; rw [off_at] at hS; cases hS
    rw [off_ne _ e] at hS
    rw [atKey_del_other (int_lit_ne (by omega))]
    exact h.val y hy hS z
  · by_cases e : kl = .int .i64 (x : Nat)
    · rw [e, has_del_same] at hk
      cases hk
    · rw [has_del_other e] at hk
      exact h.keys kl hk
theorem stp_none {T : Nat → Nat} {m : Nat} {D : DataW Unit} {S : Nat → Bool} (h : Stp T m D S) (hc : Canon D) (h0 : Maps.size D = 0) : ∀ x, x < m → S x = false := fun x hx => by
  rw [← h.there x hx]
  exact (size_none hc).1 h0 _
theorem stp_some {T : Nat → Nat} {m : Nat} {D : DataW Unit} {S : Nat → Bool} (h : Stp T m D S) (hc : Canon D) (h0 : Maps.size D ≠ 0) : ∃ x, x < m ∧ S x = true := by
  refine Classical.byContradiction fun hno => h0 ((size_none hc).2 fun kl => ?_)
  cases hk : has D kl with
  | false => rfl
  | true =>
    obtain ⟨x, hx, rfl⟩ := h.keys kl hk
    exact absurd ⟨x, hx, by rw [← h.there x hx]; exact hk⟩ hno
theorem grown_of {w w' : World} (h : Below w.heap.size w w') (row : Option Nat) : w.grownBy w' row := ⟨h.os, h.tape, h.output, h.size, fun k hk _ => h.block k hk⟩
theorem grown_trans {w w1 w2 : World} {row : Option Nat} (h1 : w.grownBy w1 row) (h2 : w1.grownBy w2 row) : w.grownBy w2 row :=
  ⟨h2.os.trans h1.os, h2.tape.trans h1.tape, h2.output.trans h1.output, Nat.le_trans h1.size h2.size, fun k hk hne => (h2.block k (Nat.lt_of_lt_of_le hk h1.size) hne).trans (h1.block k hk hne)⟩
theorem grown_new {w w1 w2 : World} {row row2 : Option Nat} (h1 : w.grownBy w1 row) (h2 : w1.grownBy w2 row2) (hn : ∀ k, row2 = some k → w.heap.size ≤ k) : w.grownBy w2 row :=
  ⟨h2.os.trans h1.os, h2.tape.trans h1.tape, h2.output.trans h1.output, Nat.le_trans h1.size h2.size, fun k hk hne => (h2.block k (Nat.lt_of_lt_of_le hk h1.size) (fun e => by have := hn k e.symm; omega)).trans (h1.block k hk hne)⟩
theorem RS.len {w : World} {B n : Nat} {v : Value} {F : Nat → List Int} {X : Nat → Value} (h : RS w B v n F X) : lenOf v = n := by
  rcases h.outer.2 with ⟨rfl, rfl⟩ | ⟨g, cap, cur, rfl, _⟩ <;> rfl
theorem row_not_map {P : Program} {w : World} {B n k b N : Nat} {v : Value} {xs : List Value} {t kt : TypeId} {R : Value → Option (DataW Unit × List MemPlace)} {D : DataW Unit} (h : w.ownsRow B t k v n xs) (ho : w.ownsMap P kt R b N D) : v.ownBlock ≠ some b := by
  intro e
  obtain ⟨es, clock, hb, _⟩ := ho
  rcases h.2 with ⟨rfl, _⟩ | ⟨g, c, cur, rfl, _, hg, _⟩
  · simp [Value.ownBlock] at e
  · simp [Value.ownBlock] at e
    subst e
    rw [hb] at hg
    simp at hg
theorem wpList_lookup_ok_int {P : Program} (w : World) {ops : Array Oper} {rest : List Oper} {o : Oper} {a : Act} {Q : Exit → Act → World → Prop}
    (hg : o.guard = none) (m x : Operand) (t : TypeId) (hop : o.op = Op.lookup t m x true)
    (k e : TypeId) (K : Keyed P k) (ht : P.underlying t = some (.map k e)) (he : P.underlying e = some (.int .i64)) (hz : (zeroValue e).run P w = .ok (.int .i64 0) w) (b n : Nat) (D : DataW Unit)
    (hm : a.eval m = .map (some b)) (hown : w.ownsMap P k (plainElem P e) b n D) (key : Value) (kl : Lit) (hx : a.eval x = key) (hkey : keyOf P k key = some kl) (r : Bool) (hr : has D kl = r)
    (hK : ∀ c : Int, D.atKey kl (.lit (.int .i64 0)) = .lit (.int .i64 c) → wpList P ops Q rest (a.put o.dst (.tuple #[.int .i64 c, .bool r])) w) :
    wpList P ops Q (o :: rest) a w := by
  subst hr
  refine wpList_lookup_own_ok w hg m x t hop k e K ht (plainElem P e) hz (.lit (.int .i64 0)) [] (plainElem_int he (by decide)) b n D hm hown key kl hx hkey (fun v ps hv => ?_)
  obtain ⟨c, rfl, hc, _⟩ := plainElem_int_inv he hv
  exact hK c (congrArg Prod.fst hc)
set_option maxHeartbeats 2000000 in
set_option maxRecDepth 100000 in
/-- impl.leastStart. -/
theorem leastStartE (b n m : Nat) (D : DataW Unit) (w : World) (hown : w.ownsMap Try.prog 3 (plainElem (H := Unit) Try.prog 3) b n D) (hD : ∀ kl, has D kl = true → ∃ x, x < m ∧ kl = .int .i64 (x : Nat)) (hm : m ≤ 16) :
    Calls Try.prog 99 #[.map (some b)] w fun e w' => ∃ z : Nat, e = .returned (.int .i64 z) ∧ w'.ownsMap Try.prog 3 (plainElem (H := Unit) Try.prog 3) b n D ∧ Below w.heap.size w w' ∧ (∀ x : Nat, x < m → has D (.int .i64 (x : Nat)) = true → z ≤ x) ∧ (z = 16 ∨ (z < m ∧ has D (.int .i64 (z : Nat)) = true)) := by
  have hlt := hown.lt
  have HO := Lib.hid hown; clear hown
  have HD := Lib.hid hD; clear hD
  go_enter Try.func99, Try.ntmps99
  go_wp2_with (first
    | (at_range; refine wpList_range_own _ rfl _ 77 rfl 3 3 Try.lawI Try.underlying77 _ b n _ rfl HO.out ?_; intro w4 hrg0 hg0 hs0)
    | go_in)
  have HR4 := Lib.hid hrg0
  have HB4 : Hid (Below w.heap.size w w4) := Lib.hid ((Below.refl w.heap.size w).grown hg0 (Nat.le_refl _) (fun k hk => by cases hk))
  clear hrg0 hg0
  go_frame
  go_loopw [3] (fun vl wr => ∃ (left : Lit → Bool) (cnt z : Nat), vl = .int .i64 z ∧ wr.ranges Try.prog 3 (plainElem (H := Unit) Try.prog 3) b w.heap.size n D left cnt ∧ (∀ x : Nat, x < m → has D (.int .i64 (x : Nat)) = true → left (.int .i64 (x : Nat)) = false → z ≤ x) ∧ (z = 16 ∨ (z < m ∧ has D (.int .i64 (z : Nat)) = true)) ∧ Below w.heap.size w wr) (fun _ wr => wr.rangeLeft b w.heap.size)
  case atStart => exact ⟨_, _, 16, rfl, HR4.out, fun x _ h1 h2 => (by rw [h1] at h2; cases h2), .inl rfl, HB4.out⟩
  case round =>
    obtain ⟨left, cnt, z, rfl, hrg, hle, hz, hb⟩ := hrel
    have HL := Lib.hid hle; clear hle
    have HZ := Lib.hid hz; clear hz
    have HB := Lib.hid hb; clear hb
    have hz16 : z ≤ 16 := by rcases HZ.out with h | h <;> omega
    go_wp2_with (first
      | (at_next; refine wpList_next_ranges_ii _ rfl _ rfl 3 3 .i64 .i64 Try.lawI Try.underlying3 Try.underlying3 b w.heap.size n _ _ _ rfl hrg ?_ ?_)
      | go_in)
    · intro _ hl0
      have HF := Lib.hid hl0
      have HOW := Lib.hid hrg.owns
      clear hl0 hrg
      go_wp2
      go_ret
      exact ⟨z, rfl, HOW.out, HB.out, fun x hx h => HL.out x hx h (HF.out _), HZ.out⟩
    · intro x c w5 cnt1 hwx hwc hlx hat hrg1 hlt1 hg1 hs1 hen
      have HHX := Lib.hid (has_true_of_atKey hat)
      obtain ⟨X, hX, ex⟩ := HD.out _ HHX.out
      obtain rfl : x = (X : Int) := by cases ex; rfl
      clear ex hat
      have hr0 := hrg.left_eq
      have HB5 := Lib.hid (HB.out.grown hg1 (by have := HB.out.size; omega) (fun j hj => by cases hj; exact Nat.le_refl _))
      have HRG := Lib.hid hrg1
      clear hrg hg1
      by_cases hzx : z ≤ X
      · have h1 : (z : Int) ≤ (X : Int) := by omega
        go_wp2
        go_roundw
        case rel =>
          refine ⟨_, cnt1, z, rfl, HRG.out, ?_, HZ.out, HB5.out⟩
          intro y hy h2 h3
          by_cases e : y = X
          · subst e; exact hzx
          · rw [show (left (.int .i64 (y : Int)) && !(Lit.int .i64 (y : Int)).sameKey (.int .i64 (X : Int))) = left (.int .i64 (y : Int)) from left_fst e] at h3
            exact HL.out y hy h2 h3
        case measure => rw [HRG.out.left_eq, hr0]; exact hlt1
      · have h1 : ¬ (z : Int) ≤ (X : Int) := by omega
        have h2 : (X : Int) < (z : Int) := by omega
        go_wp2
        go_roundw
        case rel =>
          refine ⟨_, cnt1, X, by first | rfl | go_num, HRG.out, ?_, .inr ⟨hX, HHX.out⟩, HB5.out⟩
          intro y hy h2 h3
          by_cases e : y = X
          · subst e; exact Nat.le_refl _
          · rw [show (left (.int .i64 (y : Int)) && !(Lit.int .i64 (y : Int)).sameKey (.int .i64 (X : Int))) = left (.int .i64 (y : Int)) from left_fst e] at h3
            have := HL.out y hy h2 h3
            omega
        case measure => rw [HRG.out.left_eq, hr0]; exact hlt1
set_option maxHeartbeats 4000000 in
set_option maxRecDepth 100000 in
/-- impl.takeCycle. -/
theorem takeCycleE (b n m : Nat) (D : DataW Unit) (S : Nat → Bool) (T : Nat → Nat) (w : World) (hown : w.ownsMap Try.prog 3 (plainElem (H := Unit) Try.prog 3) b n D) (hst : Stp T m D S) (hT : ∀ x, x < m → T x < m) (hm : m ≤ 16) (hx : ∃ x, x < m ∧ S x = true) :
    Calls Try.prog 72 #[.map (some b)] w fun e w' => ∃ v D' x, e = .returned v ∧ Row w' w.heap.size v (ints (tk T m S x).1) ∧ w'.ownsMap Try.prog 3 (plainElem (H := Unit) Try.prog 3) b n D' ∧ Stp T m D' (tk T m S x).2 ∧ x < m ∧ S x = true ∧ (∀ y, y < x → S y = false) ∧ w.grownBy w' (some b) := by
  obtain ⟨i0, hi, iz0, iz1, iz2⟩ := info_parts Try.infoI
  have HLS := Lib.hid (leastStartE b n m D w hown hst.keys hm)
  have HST := Lib.hid hst
  have HX := Lib.hid hx
  have hlt := hown.lt
  have HNT := Lib.hid hT
  have HTN : Hid (∀ k S x, S x = false → tk T k S x = ([], S)) := Lib.hid fun k S x h => tk_no k h
  have HTY : Hid (∀ k S x, x < m → S x = true → cnS m S ≤ k → ∃ k', cnS m (off S x) ≤ k' ∧ tk T k S x = (x :: (tk T k' (off S x) (T x)).1, (tk T k' (off S x) (T x)).2)) := Lib.hid fun k S x hx hS hc => by
    obtain ⟨k', _, h1, h2⟩ := tk_yes (t := T) hx hS hc
    exact ⟨k', h1, h2⟩
  have HCL : Hid (∀ S, cnS m S ≤ m) := Lib.hid fun S => cnS_le _ _
  have HOFF : Hid (∀ S x, x < m → S x = true → cnS m S = cnS m (off S x) + 1) := Lib.hid fun S x hx hS => cnS_off hx hS
  have HRA : Hid (∀ w B v (l : List Nat), Row w B v (ints l) → w.ownsRow B 3 1 v l.length ((ints l).map (Value.int .i64))) := Lib.hid fun w B v l h => by
    have h' := h
    unfold Row at h'
    rw [ints_len] at h'
    exact h'
  clear hown hst hx hT
  have hzi : ∀ w, (zeroValue 3).run Try.prog w = .ok (.int .i64 0) w := fun w => by go_simp
  go_enter Try.func72, Try.ntmps72
  go_wp2_with fail
  refine HLS.out.mono ?_
  rintro e w1 ⟨z, rfl, ho1, hb1, hle, hz⟩
  have hzx : ∃ x, x < m ∧ z = x ∧ S x = true ∧ ∀ y, y < x → S y = false := by
    obtain ⟨x, hx, hS⟩ := HX.out
    have h1 := hle x hx (by rw [HST.out.there x hx]; exact hS)
    rcases hz with h | ⟨h, h2⟩
    · omega
    · refine ⟨z, h, rfl, by rw [← HST.out.there z h]; exact h2, fun y hy => ?_⟩
      cases hSy : S y with
      | false => rfl
      | true =>
        have := hle y (by omega) (by rw [HST.out.there y (by omega)]; exact hSy)
        omega
  obtain ⟨x, hx, hzx', hSx, hlow⟩ := hzx
  subst hzx'
  have HO1 := Lib.hid ho1
  have HG1 := Lib.hid (grown_of hb1 (some b))
  have hz1 := hb1.size
  have HLOW := Lib.hid hlow
  have HSX := Lib.hid hSx
  clear ho1 hb1 hle hz hlow hSx
  have hwz : (Lit.int .i64 (z : Int)).wf = true := WalkArith.wf_i64 (by omega)
  go_wp2_with (first
    | (at_lookup; refine wpList_lookup_ok_int _ rfl _ _ 77 rfl 3 3 Try.lawI Try.underlying77 Try.underlying3 (hzi _) b n D rfl HO1.out _ _ rfl (keyOf_int_mk Try.underlying3 hwz) true (by rw [HST.out.there z hx]; exact HSX.out) ?_; intro c0 hc0)
    | go_in)
  have HC0 : Hid (c0 = ((T z : Nat) : Int)) := Lib.hid (by
    rw [HST.out.val z hx HSX.out] at hc0
    cases hc0
    rfl)
  clear hc0
  go_loopw [3, 4, 5, 6] (fun vc vx vy vl ws => ∃ (x' kk : Nat) (y' : Int) (S' : Nat → Bool) (D' : DataW Unit) (p2 : List Nat), x' < m ∧ vx = .int .i64 x' ∧ vy = .int .i64 y' ∧ vl = .bool (S' x') ∧ (S' x' = true → y' = ((T x' : Nat) : Int)) ∧ ws.ownsMap Try.prog 3 (plainElem (H := Unit) Try.prog 3) b n D' ∧ Stp T m D' S' ∧ cnS m S' ≤ kk ∧ p2 ++ (tk T kk S' x').1 = (tk T m S z).1 ∧ (tk T kk S' x').2 = (tk T m S z).2 ∧ p2.length + cnS m S' ≤ m ∧ Row ws w.heap.size vc (ints p2) ∧ w.grownBy ws (some b)) (fun vc _ _ _ _ => m - lenOf vc)
  case atStart => exact ⟨z, m, c0, S, D, [], hx, rfl, rfl, by rw [HSX.out], fun _ => HC0.out, HO1.out, HST.out, HCL.out S, rfl, rfl, by have := HCL.out S; simpa using this, Row.nil _ _, HG1.out⟩
  case round =>
    obtain ⟨x', kk, y', S', D', p2, hx', rfl, rfl, rfl, hy', ho, hst, hkk, hp2, hend, hcnt, hr2, hg⟩ := hrel
    have hzs := hg.size
    have HO := Lib.hid ho
    have HSTs := Lib.hid hst
    have HR2 := Lib.hid hr2
    have HG := Lib.hid hg
    obtain ⟨a2, cp2, hvc⟩ := hr2.sl.form
    rw [ints_len] at hvc
    subst hvc
    cases hS' : S' x' with
    | false =>
      have hno := HTN.out kk S' x' hS'
      rw [hno] at hp2 hend
      simp only [List.append_nil] at hp2 hend
      have HP2 := Lib.hid hp2
      have HEND := Lib.hid hend
      clear hno hp2 hend hS' hr2 hg hst ho hy'
      go_wp2
      go_ret
      exact ⟨_, D', z, rfl, by rw [← HP2.out]; exact HR2.out, HO.out, by rw [← HEND.out]; exact HSTs.out, hx, HSX.out, HLOW.out, HG.out⟩
    | true =>
      obtain ⟨k2, hk2, hyes⟩ := HTY.out kk S' x' hx' hS' hkk
      have hoff := HOFF.out S' x' hx' hS'
      rw [hyes] at hp2 hend
      have hyv := hy' hS'
      subst hyv
      have HP2 := Lib.hid hp2
      have HEND := Lib.hid hend
      have hTx := HNT.out x' hx'
      have hwx : (Lit.int .i64 (x' : Int)).wf = true := WalkArith.wf_i64 (by omega)
      have hwt : (Lit.int .i64 ((T x' : Nat) : Int)).wf = true := WalkArith.wf_i64 (by omega)
      have HST6 := Lib.hid (stp_del (x := x') hst)
      clear hyes hp2 hend hr2 hg hst ho hy' hS'
      go_wp2_with (at_builtin; refine wpList_append_own _ rfl _ _ 22 rfl w.heap.size 3 i0 (.int .i64 0) 1 8 Try.underlying22 hi iz0 iz1 iz2 rfl (by decide) _ _ _ rfl (HRA.out _ _ _ _ (HR2.out.alloc _)) ⟨wr.heap.size, 0, none⟩ 1 1 [.int .i64 x'] rfl rfl ?c1 ?c2 ?c3 ?c4 ?c5 ?_)
      case c2 => first | rfl | (intro u hu; simp at hu; subst hu; rfl)
      case c3 => unfold maxLen; omega
      case c4 => omega
      case c5 => first | omega | (simp; omega)
      intro v' w6 hown hgrow _
      have hr6 : Row w6 w.heap.size v' (ints (p2 ++ [x'])) := by
        rw [ints_app]
        exact Row.appended (by rw [ints_len]; exact hown)
      have hln : lenOf v' = p2.length + 1 := by rw [hr6.len, ints_len, List.length_append]; rfl
      have HO6 := Lib.hid ((HO.out.alloc (.cells #[.int .i64 x'] 3)).kept hgrow (fun e => by have := (HR2.out.lt b e.symm).1; omega))
      have HG6 := Lib.hid (grown_new (grown_new HG.out (World.grownBy_alloc _ _ none) (fun k e => by cases e)) hgrow (fun k e => (HR2.out.lt k e).1))
      have HR6 := Lib.hid hr6
      clear hown hgrow hr6
      go_wp2_with (first
        | (at_delete; refine wpList_delete_own _ rfl _ _ 77 3 rfl 3 Try.lawI Try.underlying77 _ b n D' rfl HO6.out _ _ rfl (keyOf_int_mk Try.underlying3 hwx) ?_; intro w7 hc7 hturn; go_frame)
        | (at_lookup; refine wpList_lookup_ok_int _ rfl _ _ 77 rfl 3 3 Try.lawI Try.underlying77 Try.underlying3 (hzi _) b n _ rfl hc7 _ _ rfl (keyOf_int_mk Try.underlying3 hwt) (off S' x' (T x')) (HST6.out.there _ hTx) ?_; intro c1 hc1)
        | go_in)
      have HG7 := Lib.hid (grown_trans HG6.out hturn.grown)
      have HR7 := Lib.hid (HR6.out.keep fun g hg => hturn.grown.block g (HR6.out.lt g hg).2 (fun e => by have := (HR6.out.lt g hg).1; cases e; omega))
      have HV : Hid (off S' x' (T x') = true → c1 = ((T (T x') : Nat) : Int)) := Lib.hid fun h => by
        rw [HST6.out.val _ hTx h] at hc1
        cases hc1
        rfl
      clear hc1 hturn
      go_roundw
      case rel => exact ⟨T x', k2, c1, off S' x', _, p2 ++ [x'], hTx, rfl, rfl, rfl, HV.out, hc7, HST6.out, hk2, by rw [List.append_assoc]; exact HP2.out, HEND.out, by rw [List.length_append]; simp; omega, HR7.out, HG7.out⟩
      case measure => rw [hln]; simp [lenOf]; omega
set_option maxHeartbeats 4000000 in
set_option maxRecDepth 100000 in
/-- impl.poly.cycles. -/
theorem cyclesE (m g n cap : Nat) (f : Nat → Int) (w : World) (h : isSz (m : Int) = true) (hg : g < w.heap.size) (he : Els w g (m : Int) f n) (hf : ∀ i, El (m : Int) (f i)) (hn : n ≤ 1000) :
    Calls Try.prog 43 #[polyE (m : Int) (.slice (some ⟨g, 0, none⟩) n cap)] w fun e w' => ∃ v X, e = .returned v ∧ RS w' w.heap.size v (CY (tabF (m : Int) f n) m).length (FL (CY (tabF (m : Int) f n) m)) X ∧ Below w.heap.size w w' := by
  obtain ⟨j0, hj, jz0, jz1, jz2⟩ := info_parts Try.infoR
  have hq := isSz_le (m : Int) h
  have HT := Lib.hid (fun w' (hb : Below w.heap.size w w') => stepsE m g n cap f w' h (by have := hb.size; omega) (he.below hb hg) hf hn)
  have hte := fun i (hi : i < m) => tab_el (k := n) h hf i hi
  generalize tabF (m : Int) f n = t at *
  have hnt : ∀ x, x < m → nt t x < m := fun x hx => by have := hte x hx; unfold nt; have h1 := this.1; have h2 := this.2; omega
  have hntv : ∀ x, x < m → t x = ((nt t x : Nat) : Int) := fun x hx => by have := hte x hx; unfold nt; have h1 := this.1; have h2 := this.2; omega
  have HST := Lib.hid (stp_start hntv)
  have HTC := Lib.hid (fun b D S w (ho : w.ownsMap Try.prog 3 (plainElem (H := Unit) Try.prog 3) b m D) (hs : Stp (nt t) m D S) (hx : ∃ x, x < m ∧ S x = true) => takeCycleE b m m D S (nt t) w ho hs hnt (by omega) hx)
  have HL0 : Hid (∃ c, cnS m (allS m) ≤ c ∧ ([] : List (List Nat)) ++ cyc (nt t) m c (allS m) = CY t m) := Lib.hid ⟨m, cnS_le _ _, rfl⟩
  have HNO : Hid (∀ c S, (∀ x, x < m → S x = false) → cyc (nt t) m c S = []) := Lib.hid fun c S h => cyc_none c h
  have HSO : Hid (∀ c S x, x < m → S x = true → (∀ y, y < x → S y = false) → cnS m S ≤ c → ∃ c', cnS m (tk (nt t) m S x).2 ≤ c' ∧ cyc (nt t) m c S = (tk (nt t) m S x).1 :: cyc (nt t) m c' (tk (nt t) m S x).2) := Lib.hid fun c S x hx hS hl hc => by
    obtain ⟨c', _, h1, h2⟩ := cyc_some (t := nt t) hnt hx hS hl hc
    exact ⟨c', h1, h2⟩
  clear he hf h hte hnt hntv
  generalize hL : CY t m = L at *
  have HLL : Hid (L.length ≤ m) := Lib.hid (by rw [← hL]; exact cyc_len (t := nt t) m m (allS m))
  clear hL
  generalize nt t = T at *
  go_enter Try.func43, Try.ntmps43
  go_wp2_with fail
  refine (HT.out _ (by (repeat' (first | (with_reducible assumption) | (with_reducible exact Below.refl _ _) | (with_reducible refine below_drewN ?_ _) | (with_reducible refine Below.drew ?_) | (with_reducible refine Below.alloc ?_ ?_ _) | (with_reducible refine Below.setCell ?_ ?_ _) | (with_reducible refine Below.trans ?_ (Below.mono (by assumption) ?_)) | (with_reducible exact Nat.le_refl _) | (with_reducible assumption) | omega | (simp; omega) | (simp; done))))).mono ?_
  rintro e w1 ⟨B, rfl, hB0, hB1, hm1, hb1⟩
  simp at hB0
  have HB1 : Hid (Below w.heap.size w w1) := Lib.hid (by (repeat' (first | (with_reducible assumption) | (with_reducible exact Below.refl _ _) | (with_reducible refine below_drewN ?_ _) | (with_reducible refine Below.drew ?_) | (with_reducible refine Below.alloc ?_ ?_ _) | (with_reducible refine Below.setCell ?_ ?_ _) | (with_reducible refine Below.trans ?_ (Below.mono (by assumption) ?_)) | (with_reducible exact Nat.le_refl _) | (with_reducible assumption) | omega | (simp; omega) | (simp; done))))
  have HM1 := Lib.hid hm1
  have hz1 := HB1.out.size
  clear hm1 hb1
  go_wp2_with fail
  go_loopw [3] (fun vo wr => ∃ (D : DataW Unit) (S : Nat → Bool) (pre : List (List Nat)) (X : Nat → Value), wr.ownsMap Try.prog 3 (plainElem (H := Unit) Try.prog 3) B m D ∧ Stp T m D S ∧ (∃ c, cnS m S ≤ c ∧ pre ++ cyc T m c S = L) ∧ RS wr w.heap.size vo pre.length (FL pre) X ∧ Below w.heap.size w wr ∧ (∀ i, i < pre.length → ∀ g, (X i).ownBlock = some g → g ≠ B) ∧ vo.ownBlock ≠ some B) (fun vo _ => m - lenOf vo)
  case atStart => exact ⟨_, _, [], fun _ => .slice none 0 0, HM1.out, HST.out, HL0.out, RS.nil _ _ _ _, HB1.out, fun i hi => absurd hi (Nat.not_lt_zero _), by simp [Value.ownBlock]⟩
  case round =>
    obtain ⟨D, S, pre, X, ho, hst, ⟨c, hcn, hpre⟩, hr, hb, hxb, hvb⟩ := hrel
    have hzr := hb.size
    have hBl := ho.lt
    have hvl := hr.len
    have HO := Lib.hid ho
    have HSS := Lib.hid hst
    have HR := Lib.hid hr
    have HB := Lib.hid hb
    have HXB := Lib.hid hxb
    have hcan := ho.canon Try.lawI
    by_cases h0 : Maps.size D = 0
    · have hno := HNO.out c S (stp_none hst hcan h0)
      rw [hno, List.append_nil] at hpre
      subst hpre
      have hc1 : ((Maps.size D : Nat) : Int) = 0 := by omega
      clear ho hst hr hb hxb hcan hno h0
      go_wp2_with (first
        | (at_len; refine wpList_len_own _ rfl _ 77 rfl 3 3 Try.underlying77 _ B m D rfl HO.out ?_)
        | go_in)
      go_ret
      exact ⟨_, X, rfl, HR.out, HB.out⟩
    · have hsome := stp_some hst hcan h0
      have HTK := Lib.hid (HTC.out B D S wr ho hst hsome)
      have hc1 : (0 : Int) < ((Maps.size D : Nat) : Int) := by omega
      have HCN := Lib.hid hcn
      have HPRE := Lib.hid hpre
      clear ho hst hr hb hxb hcan h0 hcn hpre hsome
      go_wp2_with (first
        | (at_len; refine wpList_len_own _ rfl _ 77 rfl 3 3 Try.underlying77 _ B m D rfl HO.out ?_)
        | fail)
      refine HTK.out.mono ?_
      rintro e w2 ⟨v2, D2, x, rfl, hr2, ho2, hst2, hx, hSx, hlow, hg2⟩
      obtain ⟨c', hc', hcy⟩ := HSO.out c S x hx hSx hlow HCN.out
      have hpre := HPRE.out
      rw [hcy] at hpre
      have HPRE2 := Lib.hid hpre
      have hlen : pre.length < m := by
        have h1 := congrArg List.length hpre
        rw [List.length_append, List.length_cons] at h1
        have := HLL.out
        omega
      have hz2 := hg2.size
      have HR1 := Lib.hid (HR.out.keep (w' := w2) (fun g hg => hg2.block g (HR.out.lt g hg).2 (fun e => hvb (by rw [hg, e]))) (fun i hi g hg => hg2.block g ((HR.out.inner i hi).lt g hg).2 (fun e => HXB.out i hi g hg (by cases e; rfl))))
      have HB2 := Lib.hid (HB.out.grown hg2 (by omega) (fun k e => by cases e; omega))
      have HR2 := Lib.hid hr2
      have HO2 := Lib.hid ho2
      have HST2 := Lib.hid hst2
      obtain ⟨a2, cp2, hvc⟩ := hr2.sl.form
      rw [ints_len] at hvc
      subst hvc
      clear hr2 ho2 hst2 hlow hSx hpre hg2 hcy
      generalize (tk T m S x).1 = cy at *
      go_wp2_with (at_builtin; refine wpList_append_own _ rfl _ _ 31 rfl w.heap.size 22 j0 (.slice none 0 0) 1 24 Try.underlying31 hj jz0 jz1 jz2 rfl (by decide) _ _ _ rfl (World.ownsRow.alloc HR1.out.outer _) ⟨w2.heap.size, 0, none⟩ 1 1 [.slice a2 cy.length cp2] rfl rfl ?c1 ?c2 ?c3 ?c4 ?c5 ?_)
      case c1 => exact cell_one_new _ _ _
      case c2 => first | rfl | (intro u hu; simp at hu; subst hu; rfl)
      case c3 => unfold maxLen; omega
      case c4 => omega
      case c5 => first | omega | (simp; omega)
      intro v' w6 hown hgrow _
      have hrs := (HR1.out.alloc _).appended hgrow hown ((HR2.out.alloc _).mono (by omega)) (fun i hi g hg e => by
        have h1 := ((HR.out.inner i hi).lt g hg).2
        have h2 := (HR2.out.lt g e).1
        omega)
      have HRS := Lib.hid (hrs.congr (FL_app pre cy))
      have HO6 := Lib.hid ((HO2.out.alloc (.cells #[.slice a2 cy.length cp2] 22)).kept hgrow (fun e => hvb e.symm))
      have hbA : Below w.heap.size w (w2.alloc (.cells #[.slice a2 cy.length cp2] 22)) := HB2.out.alloc (by omega) _
      have HB6 := Lib.hid (hbA.grown hgrow (by simp; omega) (fun g hg => (HR1.out.lt g hg).1))
      have hln := hrs.len
      have HVB := Lib.hid (row_not_map hown HO6.out)
      clear hown hgrow hbA hrs
      go_wp2
      go_roundw
      case rel =>
        refine ⟨D2, _, pre ++ [cy], _, HO6.out, HST2.out, ⟨c', hc', by rw [List.append_assoc]; exact HPRE2.out⟩, by rw [List.length_append]; exact HRS.out, HB6.out, ?_, HVB.out⟩
        intro i hi g hg e
        subst e
        by_cases e : i = pre.length
        · subst e
          rw [set1_at] at hg
          have := (HR2.out.lt g hg).1
          omega
        · rw [set1_ne _ _ _ _ e] at hg
          rw [List.length_append] at hi
          exact HXB.out i (by simp at hi; omega) g hg rfl
      case measure => rw [hln, hvl]; omega
end Go.Proofs.Ytommagdddleoiab
