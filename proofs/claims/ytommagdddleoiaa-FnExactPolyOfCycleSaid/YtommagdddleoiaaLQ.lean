/- PolyOfCycle, of both, by contracts; the walk of its law. -/
import Derived.Test.YtommagdddleoiaaLD
import Derived.Test.YtommagdddleoiaaLN
import Derived.Test.YtommagdddleoiaaKL
import Derived.Deep.RegionHeld3
namespace Go.Proofs.Ytommagdddleoiaa
open Go.RowKit Go.Maps
theorem plainElem_bool_inv {H : Type} {P : Program} {e : TypeId} (he : P.underlying e = some .bool) {v : Value} {z : DataW H × List MemPlace} (h : plainElem P e v = some z) : ∃ x, v = .bool x ∧ z = (.lit (.bool x), []) := by
  unfold plainElem at h
  rw [he] at h
  cases v <;> simp at h
  exact ⟨_, rfl, h.symm⟩
/-- 'm[k]' at a map whose elements are bools. -/
theorem wpList_lookup_own_bool {H : Type} {P : Program} (w : World) {ops : Array Oper} {rest : List Oper} {o : Oper} {a : Act} {Q : Exit → Act → World → Prop}
    (hg : o.guard = none) (m x : Operand) (t : TypeId) (hop : o.op = Op.lookup t m x false)
    (k e : TypeId) (K : Keyed P k) (ht : P.underlying t = some (.map k e)) (he : P.underlying e = some .bool) (hz : (zeroValue e).run P w = .ok (.bool false) w) (b n : Nat) (D : DataW H)
    (hm : a.eval m = .map (some b)) (hown : w.ownsMap P k (plainElem P e) b n D) (key : Value) (kl : Lit) (hx : a.eval x = key) (hkey : keyOf P k key = some kl) (r : Bool) (hat : D.atKey kl (.lit (.bool false)) = .lit (.bool r))
    (hK : wpList P ops Q rest (a.put o.dst (.bool r)) w) :
    wpList P ops Q (o :: rest) a w := by
  refine wpList_plain hg fun K' hK' => ?_
  obtain ⟨v, ps, hrun, hv⟩ := hown.lookup K ht hz (plainElem_bool he false) hkey
  obtain ⟨c, rfl, hc⟩ := plainElem_bool_inv he hv
  have hcr : c = r := by
    have h1 := congrArg Prod.fst hc
    simp only [hat] at h1
    cases h1
    rfl
  subst hcr
  unfold Oper.wp
  simp [execOp, hop, hm, hx, hrun, Result.andThen]
  exact hK' _ _ hK
/-- What a map of bools says of each number. -/
def Says (D : DataW Unit) (S : Int → Bool) : Prop := ∀ x : Int, D.atKey (.int .i64 x) (.lit (.bool false)) = .lit (.bool (S x))
theorem says_empty : Says (.map []) (fun _ => false) := fun _ => rfl
theorem Says.put {D : DataW Unit} {S : Int → Bool} (h : Says D S) (hm : IsMap D) (a : Int) : Says (D.put (.int .i64 a) (.lit (.bool true))) (fun x => decide (x = a) || S x) := fun x => by
  by_cases e : x = a
  · subst e
    rw [atKey_put_same hm (show WideAt.IsKeyLit (.int .i64 x) from trivial)]
    simp
  · rw [atKey_put_other (int_lit_ne e), h x]
    simp [e]
theorem Says.del {D : DataW Unit} {S : Int → Bool} (h : Says D S) (a : Int) : Says (D.del (.int .i64 a)) (fun x => !decide (x = a) && S x) := fun x => by
  by_cases e : x = a
  · subst e
    rw [atKey_del_same]
    simp
  · rw [atKey_del_other (int_lit_ne e), h x]
    simp [e]
theorem Says.congr {D : DataW Unit} {S R : Int → Bool} (h : Says D S) (e : ∀ x, S x = R x) : Says D R := fun x => by rw [h x, e x]
/-- Each number an element, none twice. -/
def once (m : Nat) (l : List Int) : Bool := l.all (inF m) && dis (fun i => l.getD i 0) l.length
theorem once_short {m : Nat} {l : List Int} (h : once m l = true) : l.length ≤ m := by
  simp only [once, Bool.and_eq_true] at h
  have hd := dis_iff.1 h.2
  have hin : ∀ i, i < l.length → 0 ≤ l.getD i 0 ∧ l.getD i 0 < (m : Int) := fun i hi => by
    have hx := List.all_eq_true.1 h.1 (l.getD i 0) (by rw [show l.getD i 0 = l[i] by simp [List.getD, hi]]; exact List.getElem_mem hi)
    simpa [inF] using hx
  have := sub_len ((List.range l.length).map fun i => (l.getD i 0).toNat) (List.range m) ?_ ?_
  · simpa using this
  · rw [List.Nodup, List.pairwise_map]
    refine List.Pairwise.imp_of_mem (R := fun a b => a < b) ?_ List.pairwise_lt_range
    intro a b ha hb hab e
    have h1 := hin a (List.mem_range.1 ha)
    have h2 := hin b (List.mem_range.1 hb)
    exact hd b (List.mem_range.1 hb) a hab (by omega)
  · intro x hx
    obtain ⟨i, hi, rfl⟩ := List.mem_map.1 hx
    have := hin i (List.mem_range.1 hi)
    exact List.mem_range.2 (by omega)
theorem once_el {m : Nat} {l : List Int} (h : once m l = true) : ∀ i, i < l.length → El (m : Int) (l.getD i 0) := fun i hi => by
  simp only [once, Bool.and_eq_true] at h
  have hx := List.all_eq_true.1 h.1 (l.getD i 0) (by rw [show l.getD i 0 = l[i] by simp [List.getD, hi]]; exact List.getElem_mem hi)
  simpa [inF, El] using hx
/-- What is left of the elements behind the first k numbers. -/
def lft (m : Nat) (l : List Int) (k : Nat) : Int → Bool := fun x => inF m x && !((fl (fun i => l.getD i 0) k).contains x)
theorem lft_zero (m : Nat) (l : List Int) (x : Int) : (decide (0 ≤ x) && decide (x < (m : Int))) = lft m l 0 x := by simp [lft, fl, inF]
theorem lft_succ (m : Nat) (l : List Int) (k : Nat) (x : Int) : (!decide (x = l.getD k 0) && lft m l k x) = lft m l (k + 1) x := by
  unfold lft
  rw [fl_succ, List.contains_append]
  cases inF m x <;> cases (fl (fun i => l.getD i 0) k).contains x <;> simp
theorem lft_no {m : Nat} {l : List Int} {k : Nat} (hk : k < l.length) (h : lft m l k (l.getD k 0) = false) : once m l = false := by
  unfold once
  unfold lft at h
  cases hin : inF m (l.getD k 0) with
  | false => rw [all_false_of (inF m) l k hk hin]; rfl
  | true =>
    rw [hin] at h
    have hc : (fl (fun i => l.getD i 0) k).contains (l.getD k 0) = true := by simpa using h
    obtain ⟨j, hj, e⟩ := contains_yes hc
    rw [dis_no (t := fun i => l.getD i 0) hk hj e, Bool.and_false]
theorem lft_all {m : Nat} {l : List Int} (h : ∀ k, k < l.length → lft m l k (l.getD k 0) = true) : once m l = true := by
  unfold once
  have h1 : l.all (inF m) = true := by
    rw [List.all_eq_true]
    intro x hx
    obtain ⟨i, hi, rfl⟩ := List.getElem_of_mem hx
    have := h i hi
    unfold lft at this
    simp only [Bool.and_eq_true] at this
    simpa [List.getD, hi] using this.1
  have h2 : dis (fun i => l.getD i 0) l.length = true := dis_iff.2 fun i hi j hj e => by
    have := h i hi
    unfold lft at this
    simp only [Bool.and_eq_true] at this
    have hn := this.2
    have hc : (fl (fun i => l.getD i 0) i).contains (l.getD i 0) = false := by simpa using hn
    exact contains_no hc j hj e
  rw [h1, h2]
  rfl
set_option maxHeartbeats 4000000 in
/-- impl.field.hasAllOnce. -/
theorem hasAllOnceE (m : Nat) (v : Value) (l : List Int) (w : World) (h : isSz (m : Int) = true) (hv : Sl w v l) (hl : l.length ≤ 1048576) (hw : ∀ i, i < l.length → (Lit.int .i64 (l.getD i 0)).wf = true) :
    Calls Try.prog 73 #[fdE (m : Int), v] w fun e w' => e = .returned (.bool (once m l)) ∧ Below w.heap.size w w' := by
  have hq := isSz_le (m : Int) h
  have hmm := fun (a : Int) w => run_makeMap_some 97 3 4 .i64 a w Try.underlying97
  have HW := Lib.hid hw
  have HOP : Hid (0 < l.length → ∃ b off cap, v = .slice (some ⟨b, off, none⟩) l.length cap ∧ b < w.heap.size ∧ ∀ j, j < l.length → w.cell? ⟨b, off + j, none⟩ = some (.int .i64 (l.getD j 0))) := Lib.hid fun h0 => hv.open rfl h0
  have HNO : Hid (∀ k, k < l.length → lft m l k (l.getD k 0) = false → once m l = false) := Lib.hid fun k hk h => lft_no hk h
  have HALL : Hid ((∀ k, k < l.length → lft m l k (l.getD k 0) = true) → once m l = true) := Lib.hid lft_all
  have HS0 := Lib.hid (lft_zero m l)
  have HSS := Lib.hid (lft_succ m l)
  obtain ⟨a, cap, rfl⟩ := hv.form
  clear hv h hw
  generalize once m l = r at *
  generalize lft m l = S at *
  generalize hn : l.length = n at *
  clear hn
  go_enter Try.func73, Try.ntmps73
  go_wp2_with fail
  have hmade : ((w.alloc (ffblk (m : Int))).alloc (.map #[] 0)).ownsMap Try.prog 3 (plainElem (H := Unit) Try.prog 4) (w.heap.size + 1) 0 (.map []) := by
    have := World.ownsMap_made (H := Unit) (w.alloc (ffblk (m : Int))) Try.prog 3 (plainElem Try.prog 4)
    simpa using this
  have hzb : ∀ w, (zeroValue 4).run Try.prog w = .ok (.bool false) w := fun w => by go_simp
  have HM0 := Lib.hid hmade; clear hmade
  have HB0 : Hid (Below w.heap.size w ((w.alloc (ffblk (m : Int))).alloc (.map #[] 0))) := Lib.hid (by (repeat' (first | (with_reducible assumption) | (with_reducible exact Below.refl _ _) | (with_reducible refine below_drewN ?_ _) | (with_reducible refine Below.drew ?_) | (with_reducible refine Below.alloc ?_ ?_ _) | (with_reducible refine Below.setCell ?_ ?_ _) | (with_reducible refine Below.trans ?_ (Below.mono (by assumption) ?_)) | (with_reducible exact Nat.le_refl _) | (with_reducible assumption) | omega | (simp; omega) | (simp; done))))
  go_loopw [14] (fun vi wr => ∃ k : Nat, k ≤ m ∧ vi = .int .i64 k ∧ (∃ D, wr.ownsMap Try.prog 3 (plainElem (H := Unit) Try.prog 4) (w.heap.size + 1) k D ∧ Says D (fun x => decide (0 ≤ x) && decide (x < (k : Int)))) ∧ Below w.heap.size w wr) (fun vi _ => m - (intOf vi).toNat)
  case atStart => exact ⟨0, Nat.zero_le _, rfl, ⟨_, HM0.out, says_empty.congr fun x => by by_cases h : 0 ≤ x <;> simp [h]⟩, HB0.out⟩
  case round =>
    obtain ⟨k, hk, rfl, ⟨D, hm, hsays⟩, hb⟩ := hrel
    by_cases hlt : k < m
    · have HM := Lib.hid hm; clear hm
      have HB := Lib.hid hb; clear hb
      have HSY := Lib.hid hsays; clear hsays
      go_wp2_with (first
        | (at_mapUpdate; refine wpList_mapUpdate_own _ rfl _ _ _ 97 rfl 3 4 Try.lawI Try.underlying97 _ (w.heap.size + 1) _ _ rfl HM.out (by unfold maxLen; omega) _ _ _ rfl rfl (keyOf_int_mk Try.underlying3 (WalkArith.wf_i64 (by omega))) _ [] (plainElem_bool Try.underlying4 true) ?_; intro w6 hm6 hg6)
        | go_in)
      have HM6 := Lib.hid hm6; clear hm6
      have HB6 := Lib.hid (HB.out.grown hg6 (by have := HB.out.size; omega) (fun j hj => by cases hj; omega))
      have HSP := Lib.hid ((HSY.out.put HM.out.isMap (k : Int)).congr (R := fun x => decide (0 ≤ x) && decide (x < ((k + 1 : Nat) : Int))) fun x => by
        by_cases h1 : x = (k : Int)
        · subst h1; simp; omega
        · by_cases h2 : 0 ≤ x
          · by_cases h3 : x < (k : Int)
            · simp [h1, h2, h3]; omega
            · have : ¬ x < (k : Int) + 1 := by omega
              simp [h1, h2, h3, this]
          · simp [h1, h2])
      clear hg6
      go_wp2
      go_roundw
      case rel => exact ⟨k + 1, by omega, by go_num, ⟨_, HM6.out, HSP.out⟩, HB6.out⟩
      case measure => simp [intOf]; omega
    · obtain rfl : m = k := by omega
      have HM := Lib.hid hm; clear hm
      have HB := Lib.hid hb; clear hb
      have HSY := Lib.hid (hsays.congr HS0.out); clear hsays
      have hz := HB.out.size
      go_wp2_with fail
      go_loopw [22] (fun vi ws => ∃ k : Nat, k ≤ n ∧ vi = .int .i64 k ∧ (∃ D, ws.ownsMap Try.prog 3 (plainElem (H := Unit) Try.prog 4) (w.heap.size + 1) m D ∧ Says D (S k)) ∧ (∀ i, i < k → S i (l.getD i 0) = true) ∧ Below w.heap.size w ws) (fun vi _ => n - (intOf vi).toNat)
      case atStart => exact ⟨0, Nat.zero_le _, rfl, ⟨_, HM.out, HSY.out⟩, fun i hi => absurd hi (Nat.not_lt_zero _), HB.out⟩
      case round =>
        obtain ⟨k, hk, rfl, ⟨D, hm, hsays⟩, hyes, hbs⟩ := hrel
        have HY := Lib.hid hyes; clear hyes
        by_cases hkn : k < n
        · obtain ⟨b, off, cap', hv', hb, hc⟩ := HOP.out (by omega)
          cases hv'
          have hc1 := (hbs.cell (p := ⟨b, off + k, none⟩) hb).trans (hc k hkn)
          have hwf := HW.out k hkn
          have HSAY := Lib.hid (hsays (l.getD k 0))
          have HDEL := Lib.hid ((hsays.del (l.getD k 0)).congr (HSS.out k))
          have HNOk := Lib.hid (HNO.out k hkn)
          obtain ⟨x, hx⟩ : ∃ x, l.getD k 0 = x := ⟨_, rfl⟩
          rw [hx] at hc1 hwf HSAY HDEL HNOk
          have HX := Lib.hid hx; clear hx
          have HM2 := Lib.hid hm; clear hm
          have HBS := Lib.hid hbs; clear hbs hc hsays
          cases hs : S k x with
          | false =>
            rw [hs] at HSAY
            have HF := Lib.hid (HNOk.out hs)
            clear hs
            go_wp2_with (first
              | (at_lookup; refine wpList_lookup_own_bool _ rfl _ _ 97 rfl 3 4 Try.lawI Try.underlying97 Try.underlying4 (hzb _) (w.heap.size + 1) m D rfl HM2.out _ _ rfl (keyOf_int_mk Try.underlying3 hwf) false HSAY.out ?_)
              | go_in)
            go_ret
            exact ⟨ret_bool HF.out.symm, HBS.out⟩
          | true =>
            rw [hs] at HSAY
            have HF : Hid (S k (l.getD k 0) = true) := Lib.hid (by rw [HX.out]; exact hs)
            clear hs
            go_wp2_with (first
              | (at_lookup; refine wpList_lookup_own_bool _ rfl _ _ 97 rfl 3 4 Try.lawI Try.underlying97 Try.underlying4 (hzb _) (w.heap.size + 1) m D rfl HM2.out _ _ rfl (keyOf_int_mk Try.underlying3 hwf) true HSAY.out ?_)
              | (at_delete; refine wpList_delete_own _ rfl _ _ 97 3 rfl 4 Try.lawI Try.underlying97 _ (w.heap.size + 1) m D rfl HM2.out _ _ rfl (keyOf_int_mk Try.underlying3 hwf) ?_; intro w6 hc6 hturn; go_frame)
              | go_in)
            have HB6 := Lib.hid (HBS.out.grown hturn.grown (by have := HBS.out.size; omega) (fun j hj => by cases hj; omega))
            clear hturn
            have HC6 := Lib.hid hc6; clear hc6
            go_wp2
            go_roundw
            case rel =>
              refine ⟨k + 1, by omega, by go_num, ⟨_, HC6.out, HDEL.out⟩, ?_, HB6.out⟩
              intro i hi
              by_cases e : i = k
              · subst e
                exact HF.out
              · exact HY.out i (by omega)
            case measure => (simp [intOf]; try omega)
        · obtain rfl : n = k := by omega
          have HBS := Lib.hid hbs; clear hbs hm hsays
          have HF := Lib.hid (HALL.out HY.out)
          go_wp2
          go_ret
          exact ⟨ret_bool HF.out.symm, HBS.out⟩
end Go.Proofs.Ytommagdddleoiaa
