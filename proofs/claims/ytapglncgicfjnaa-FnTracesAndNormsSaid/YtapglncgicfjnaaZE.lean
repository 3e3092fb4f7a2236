/- Facts on traces, norms and smaller fields; what the general law FnTracesAndNorms asks, by contracts. -/
import Derived.Test.YtapglncgicfjnaaZC
import Derived.Test.YtapglncgicfjnaaRI
import Derived.Test.YtapglncgicfjnaaFD
import Derived.Test.YtapglncgicfjnaaFE
namespace Go.Proofs.Ytapglncgicfjnaa
open Go.RowKit
def repA (q s : Int) : Nat → Int
  | 0 => 0
  | n + 1 => addF q (repA q s n) s
def repM (q s : Int) : Nat → Int
  | 0 => 1
  | n + 1 => mulF q (repM q s n) s
theorem repA_el {q s : Int} (h : isSz q = true) (hs : El q s) : ∀ n, El q (repA q s n)
  | 0 => El.zero h
  | n + 1 => (repA_el h hs n).add h hs
theorem repM_el {q s : Int} (h : isSz q = true) (hs : El q s) : ∀ n, El q (repM q s n)
  | 0 => El.one h
  | n + 1 => (repM_el h hs n).mul h hs
set_option maxRecDepth 100000 in
theorem tr_one {q a : Int} (h : isSz q = true) (ha : El q a) : (0 ≤ traTo q a (plN q) ∧ traTo q a (plN q) < pr q) ∧ (0 ≤ norTo q a (plN q) ∧ norTo q a (plN q) < pr q) ∧ traTo q (pw q a (pr q).toNat) (plN q) = traTo q a (plN q) ∧
    plN q % cjn q a = 0 ∧ 1 ≤ cjn q a ∧ cjn q a ≤ 4 ∧ repA q (traTo q a (cjn q a)) (plN q / cjn q a) = traTo q a (plN q) ∧ repM q (norTo q a (cjn q a)) (plN q / cjn q a) = norTo q a (plN q) :=
  of_decide_eq_true (of_chk1 (f := fun q a => decide ((0 ≤ traTo q a (plN q) ∧ traTo q a (plN q) < pr q) ∧ (0 ≤ norTo q a (plN q) ∧ norTo q a (plN q) < pr q) ∧ traTo q (pw q a (pr q).toNat) (plN q) = traTo q a (plN q) ∧
    plN q % cjn q a = 0 ∧ 1 ≤ cjn q a ∧ cjn q a ≤ 4 ∧ repA q (traTo q a (cjn q a)) (plN q / cjn q a) = traTo q a (plN q) ∧ repM q (norTo q a (cjn q a)) (plN q / cjn q a) = norTo q a (plN q))) (by decide +kernel) q a h ha.1 ha.2)
set_option maxRecDepth 100000 in
theorem tr_two {q a b : Int} (h : isSz q = true) (ha : El q a) (hb : El q b) : traTo q (addF q a b) (plN q) = (traTo q a (plN q) + traTo q b (plN q)) % pr q ∧ norTo q (mulF q a b) (plN q) = norTo q a (plN q) * norTo q b (plN q) % pr q :=
  of_decide_eq_true (of_chk2 (f := fun q a b => decide (traTo q (addF q a b) (plN q) = (traTo q a (plN q) + traTo q b (plN q)) % pr q ∧ norTo q (mulF q a b) (plN q) = norTo q a (plN q) * norTo q b (plN q) % pr q)) (by decide +kernel) q a b h ha.1 ha.2 hb.1 hb.2)
/-- What the law asks of traces, norms, conjugates. -/
theorem ask_Traces (q a : Int) (N : Nat) : ∃ (tr no : Int) (C : List Int) (o : Bool), C.length ≤ 1048576 ∧
    (∀ w, Calls Try.prog 47 #[.int .i64 q, .int .i64 a] w fun e w' => e = .returned (.tuple #[.int .i64 tr, .bool o]) ∧ Below w.heap.size w w') ∧
    (∀ w, Calls Try.prog 48 #[.int .i64 q, .int .i64 a] w fun e w' => e = .returned (.tuple #[.int .i64 tr, .bool o]) ∧ Below w.heap.size w w') ∧
    (∀ w, Calls Try.prog 49 #[.int .i64 q, .int .i64 a] w fun e w' => e = .returned (.tuple #[.int .i64 no, .bool o]) ∧ Below w.heap.size w w') ∧
    (∀ w, Calls Try.prog 50 #[.int .i64 q, .int .i64 a] w fun e w' => e = .returned (.tuple #[.int .i64 no, .bool o]) ∧ Below w.heap.size w w') ∧
    (∀ w, Calls Try.prog 51 #[.int .i64 q, .int .i64 a] w fun e w' => ∃ v, e = .returned (.tuple #[v, .bool o]) ∧ Row w' w.heap.size v C ∧ Below w.heap.size w w') ∧
    (∀ w, Calls Try.prog 52 #[.int .i64 q, .int .i64 a] w fun e w' => ∃ v, e = .returned (.tuple #[v, .bool o]) ∧ Row w' w.heap.size v C ∧ Below w.heap.size w w') ∧
    (o = true → ∃ (p : Int) (k cn d : Nat) (b ot bo fa pd fr ab mb : Int) (S T A M : Nat → Int), (2 ≤ q ∧ q ≤ 16) ∧ 2 ≤ p ∧ p ≤ 13 ∧ k ≤ 4 ∧ C.length = cn ∧ 1 ≤ cn ∧ cn ≤ 4 ∧ k % cn = 0 ∧ k / cn = d ∧ d ≤ 4 ∧ C.getD 0 0 = a ∧ (N : Int) % q = b ∧
      (0 ≤ tr ∧ tr < p) ∧ (0 ≤ no ∧ no < p) ∧ (0 ≤ ot ∧ ot < p) ∧ (0 ≤ fa ∧ fa < p) ∧ bo = (tr + ot) % p ∧ pd = no * fa % p ∧
      (∀ w, Calls Try.prog 53 #[.int .i64 q] w fun e w' => e = .returned (.tuple #[.int .i64 p, .int .i64 (k : Int), .bool true]) ∧ Below w.heap.size w w') ∧
      (∀ w, Calls Try.prog 47 #[.int .i64 q, .int .i64 b] w fun e w' => e = .returned (.tuple #[.int .i64 ot, .bool true]) ∧ Below w.heap.size w w') ∧
      PP q a b ab ∧
      (∀ w, Calls Try.prog 47 #[.int .i64 q, .int .i64 ab] w fun e w' => e = .returned (.tuple #[.int .i64 bo, .bool true]) ∧ Below w.heap.size w w') ∧
      (∀ w, Calls Try.prog 49 #[.int .i64 q, .int .i64 b] w fun e w' => e = .returned (.tuple #[.int .i64 fa, .bool true]) ∧ Below w.heap.size w w') ∧
      TT q a b mb ∧
      (∀ w, Calls Try.prog 49 #[.int .i64 q, .int .i64 mb] w fun e w' => e = .returned (.tuple #[.int .i64 pd, .bool true]) ∧ Below w.heap.size w w') ∧
      (∀ w, Calls Try.prog 24 #[.int .i64 q, .int .i64 a, .int .i64 p] w fun e w' => e = .returned (.tuple #[.int .i64 fr, .bool true]) ∧ Below w.heap.size w w') ∧
      (∀ w, Calls Try.prog 47 #[.int .i64 q, .int .i64 fr] w fun e w' => e = .returned (.tuple #[.int .i64 tr, .bool true]) ∧ Below w.heap.size w w') ∧
      S 0 = 0 ∧ T 0 = 1 ∧ (∀ i, i < cn → PP q (S i) (C.getD i 0) (S (i + 1)) ∧ TT q (T i) (C.getD i 0) (T (i + 1))) ∧
      A 0 = 0 ∧ M 0 = 1 ∧ A d = tr ∧ M d = no ∧ (∀ i, i < d → PP q (A i) (S cn) (A (i + 1)) ∧ TT q (M i) (T cn) (M (i + 1)))) := by
  cases ha : inE q a with
  | false =>
    exact ⟨0, 0, [], false, by simp, fun w => impl_TraceOf_no q a w ha, fun w => spec_TraceOf_no q a w ha, fun w => impl_NormOf_no q a w ha, fun w => spec_NormOf_no q a w ha,
      fun w => (impl_ConjugatesOf_no q a w ha).mono fun _ _ ⟨he, hb⟩ => ⟨_, he, Row.nil _ _, hb⟩, fun w => (spec_ConjugatesOf_no q a w ha).mono fun _ _ ⟨he, hb⟩ => ⟨_, he, Row.nil _ _, hb⟩, fun e => by cases e⟩
  | true =>
    have h := (inE_yes ha).1
    have ea := inE_elZ ha
    have hq := isSz_le q h
    have hp := pr_bd q h
    have hk := plN_bd q h
    obtain ⟨t1, t2, t3, t4, t5, t6, t7, t8⟩ := tr_one h ea
    have eb : El q ((N : Int) % q) := ⟨Int.emod_nonneg _ (by omega), Int.emod_lt_of_pos _ (by omega)⟩
    obtain ⟨u1, u2⟩ := tr_two h ea eb
    obtain ⟨b1, b2, _⟩ := tr_one h eb
    have eab := ea.add h eb
    have emb := ea.mul h eb
    have efr : El q (pw q a (pr q).toNat) := pw_bd q a h ea.1 ea.2 _
    have hlen : (frol q a (cjn q a)).length = cjn q a := frol_len _ _ _
    have et : ∀ n, El q (traTo q a n) := fun n => traTo_bd q a h ea.1 ea.2 n
    have en : ∀ n, El q (norTo q a n) := fun n => norTo_bd q a h ea.1 ea.2 n
    have ef : ∀ n, El q (fro q a n) := fun n => fro_bd q a h ea.1 ea.2 n
    have hd4 : plN q / cjn q a ≤ 4 := Nat.le_trans (Nat.div_le_self _ _) hk.2
    refine ⟨traTo q a (plN q), norTo q a (plN q), frol q a (cjn q a), true, by omega, fun w => impl_TraceOf_yes q a w ha, fun w => spec_TraceOf_yes q a w ha, fun w => impl_NormOf_yes q a w ha, fun w => spec_NormOf_yes q a w ha,
      fun w => impl_ConjugatesOf_yes q a w ha, fun w => spec_ConjugatesOf_yes q a w ha, fun _ =>
      ⟨pr q, plN q, cjn q a, plN q / cjn q a, (N : Int) % q, _, _, _, _, pw q a (pr q).toNat, addF q a ((N : Int) % q), mulF q a ((N : Int) % q), traTo q a, norTo q a, repA q (traTo q a (cjn q a)), repM q (norTo q a (cjn q a)),
        ⟨hq.1, hq.2⟩, hp.1, hp.2, hk.2, hlen, t5, t6, t4, rfl, hd4, ?_, rfl, t1, t2, b1, b2, u1, u2, fun w => impl_PrimeOf_yes q w h, fun w => impl_TraceOf_yes q _ w (inE_ofZ h eb), PP.of h ea eb rfl, fun w => impl_TraceOf_yes q _ w (inE_ofZ h eab),
        fun w => impl_NormOf_yes q _ w (inE_ofZ h eb), TT.of h ea eb rfl, fun w => impl_NormOf_yes q _ w (inE_ofZ h emb), fun w => ?_, fun w => ?_, rfl, rfl, fun i hi => ⟨?_, ?_⟩, rfl, rfl, t7, t8, fun i hi => ⟨PP.of h (repA_el h (et _) i) (et _) rfl, TT.of h (repM_el h (en _) i) (en _) rfl⟩⟩⟩
    · rw [frol_get _ _ _ _ (by omega)]
      rfl
    · have := impl_PowerOf_yesZ q a (pr q) w (inP_of ha (by omega) (by omega) fun hk => by omega)
      rw [show pr q = (((pr q).toNat : Nat) : Int) by omega, powR_nat] at this
      rw [Int.toNat_of_nonneg (show 0 ≤ pr q by omega)] at this
      exact this
    · have := impl_TraceOf_yes q _ w (inE_ofZ h efr)
      rw [t3] at this
      exact this
    · rw [frol_get _ _ _ _ hi]
      exact PP.of h (et i) (ef i) rfl
    · rw [frol_get _ _ _ _ hi]
      exact TT.of h (en i) (ef i) rfl
set_option maxRecDepth 100000 in
theorem sub_ok : (sizes.all fun q => sizes.all fun r => !subOk q r || (decide (((wh (isFix q r) q.toNat).length : Int) = r) && (ascL (wh (isFix q r) q.toNat) && ((wh (isFix q r) q.toNat).contains 0 && ((wh (isFix q r) q.toNat).contains 1 &&
    ((wh (isFix q r) q.toNat).all fun x => (wh (isFix q r) q.toNat).all fun y => (wh (isFix q r) q.toNat).contains (addF q x y) && (wh (isFix q r) q.toNat).contains (mulF q x y))))))) = true := by decide +kernel
/-- What the law asks of SubfieldOf. -/
theorem ask_Sub (q r : Int) : ∃ (L : List Int) (o : Bool), L.length ≤ 1048576 ∧
    (∀ w, Calls Try.prog 56 #[.int .i64 q, .int .i64 r] w fun e w' => ∃ v, e = .returned (.tuple #[v, .bool o]) ∧ Row w' w.heap.size v L ∧ Below w.heap.size w w') ∧
    (∀ w, Calls Try.prog 57 #[.int .i64 q, .int .i64 r] w fun e w' => ∃ v, e = .returned (.tuple #[v, .bool o]) ∧ Row w' w.heap.size v L ∧ Below w.heap.size w w') ∧
    (o = true → ∃ n : Nat, L.length = n ∧ r = (n : Int) ∧ 2 ≤ n ∧ n ≤ 16 ∧ (∀ i, i + 1 < L.length → L.getD i 0 < L.getD (i + 1) 0) ∧ decide ((0 : Int) ∈ L) = true ∧ decide ((1 : Int) ∈ L) = true ∧ ∃ U V : Nat → Nat → Int,
      ∀ i j, i < n → j < n → PP q (L.getD i 0) (L.getD j 0) (U i j) ∧ TT q (L.getD i 0) (L.getD j 0) (V i j) ∧ decide (U i j ∈ L) = true ∧ decide (V i j ∈ L) = true) := by
  cases hs : subOk q r with
  | false => exact ⟨[], false, by simp, fun w => (impl_SubfieldOf_no q r w hs).mono fun _ _ ⟨he, hb⟩ => ⟨_, he, Row.nil _ _, hb⟩, fun w => (spec_SubfieldOf_no q r w hs).mono fun _ _ ⟨he, hb⟩ => ⟨_, he, Row.nil _ _, hb⟩, fun e => by cases e⟩
  | true =>
    have hs' := hs
    simp only [subOk, Bool.and_eq_true, beq_iff_eq] at hs'
    obtain ⟨h, h', hp, hd⟩ := hs'
    have hq := isSz_le q h
    have hr := isSz_le r h'
    have m1 : q ∈ sizes := by simpa [isSz] using h
    have m2 : r ∈ sizes := by simpa [isSz] using h'
    have hok := List.all_eq_true.1 (List.all_eq_true.1 sub_ok q m1) r m2
    rw [hs] at hok
    simp only [Bool.not_true, Bool.false_or, Bool.and_eq_true, decide_eq_true_eq] at hok
    obtain ⟨k1, k2, k3, k4, k5⟩ := hok
    have hl := wh_len (isFix q r) q.toNat
    refine ⟨wh (isFix q r) q.toNat, true, by omega, fun w => impl_SubfieldOf_yes q r w h h' hp hd, fun w => spec_SubfieldOf_yes q r w h h' hp hd, fun _ => ⟨_, rfl, k1.symm, by omega, by omega, ascL_at k2, by simpa using k3, by simpa using k4,
      fun i j => addF q ((wh (isFix q r) q.toNat).getD i 0) ((wh (isFix q r) q.toNat).getD j 0), fun i j => mulF q ((wh (isFix q r) q.toNat).getD i 0) ((wh (isFix q r) q.toNat).getD j 0), fun i j hi hj => ?_⟩⟩
    have e1 : (wh (isFix q r) q.toNat).getD i 0 = (wh (isFix q r) q.toNat)[i] := by simp [List.getD, hi]
    have e2 : (wh (isFix q r) q.toNat).getD j 0 = (wh (isFix q r) q.toNat)[j] := by simp [List.getD, hj]
    have el : ∀ x ∈ wh (isFix q r) q.toNat, El q x := fun x hx => by
      obtain ⟨a, ha, rfl⟩ := List.mem_map.1 hx
      have := List.mem_range.1 (List.mem_filter.1 ha).1
      exact ⟨by omega, by omega⟩
    have hx := List.getElem_mem hi
    have hy := List.getElem_mem hj
    rw [← e1] at hx
    rw [← e2] at hy
    have k6 := List.all_eq_true.1 (List.all_eq_true.1 k5 _ hx) _ hy
    rw [Bool.and_eq_true] at k6
    exact ⟨PP.of h (el _ hx) (el _ hy) rfl, TT.of h (el _ hx) (el _ hy) rfl, by simpa using k6.1, by simpa using k6.2⟩
end Go.Proofs.Ytapglncgicfjnaa
