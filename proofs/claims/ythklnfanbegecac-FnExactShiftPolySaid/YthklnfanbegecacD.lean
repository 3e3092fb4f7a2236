/- Slices of integers that the call itself makes ('Row'); spec.fdDigits and spec.fdFrom by contracts. -/
import Derived.Test.YthklnfanbegecacB
namespace Go.Proofs.Ythklnfanbegecac
open Go.RowKit

theorem Try.infoI : (Try.prog.info? 3).map (fun i => (i.zero, i.size, i.bytes)) = some (some (.int .i64 0), 1, 8) := by kernel_rfl

/-- v is a slice that holds the numbers l, in memory of blocks from B on that is written by nobody else. -/
def Row (w : World) (B : Nat) (v : Value) (l : List Int) : Prop := w.ownsRow B 3 1 v l.length (l.map (Value.int .i64))
theorem Row.nil (w : World) (B : Nat) : Row w B (.slice none 0 0) [] := World.ownsRow_nil _ _ _ _
theorem Row.form {w : World} {B : Nat} {v : Value} {l : List Int} (h : Row w B v l) (hl : 0 < l.length) : ∃ g cap, v = .slice (some ⟨g, 0, none⟩) l.length cap ∧ B ≤ g ∧ g < w.heap.size :=
  by
  rcases h.2 with ⟨_, h0⟩ | ⟨g, cap, cur, hv, hb, hg, _⟩
  · omega
  · exact ⟨g, cap, hv, hb, (Array.getElem?_eq_some_iff.1 hg).1⟩
theorem Row.cell {w : World} {B g cap : Nat} {l : List Int} (h : Row w B (.slice (some ⟨g, 0, none⟩) l.length cap) l) (i : Nat) (hi : i < l.length) : w.cell? ⟨g, i, none⟩ = some (.int .i64 (l.getD i 0)) := by
  rw [World.ownsRow.cellAt h i (by omega), List.getElem?_map, List.getElem?_eq_getElem hi]
  simp [List.getD, hi]
theorem Row.frozen {w : World} {B g n cap : Nat} {l : List Int} (h : Row w B (.slice (some ⟨g, 0, none⟩) n cap) l) (hn : n = l.length) (i : Nat) : w.frozen? ⟨g, i, none⟩ = false := by
  subst hn
  exact World.ownsRow.frozenAt h i
theorem Row.store {w : World} {B g n cap : Nat} {l : List Int} (h : Row w B (.slice (some ⟨g, 0, none⟩) n cap) l) (hn : n = l.length) (i : Nat) (x : Int) :
    Row (w.setCell ⟨g, i, none⟩ (.int .i64 x)) B (.slice (some ⟨g, 0, none⟩) n cap) (l.set i x) := by
  subst hn
  have := (World.ownsRow.stored h i (.int .i64 x)).1
  unfold Row
  rw [List.length_set, List.map_set]
  exact this
theorem Row.keep {w w' : World} {B : Nat} {v : Value} {l : List Int} (h : Row w B v l) (hk : ∀ g, v.ownBlock = some g → w'.heap[g]? = w.heap[g]?) : Row w' B v l := by
  refine ⟨h.1, ?_⟩
  rcases h.2 with hn | ⟨g, cap, cur, rfl, hb, hg, r⟩
  · exact .inl hn
  · exact .inr ⟨g, cap, cur, rfl, hb, (hk g rfl).trans hg, r⟩
theorem Row.lt {w : World} {B : Nat} {v : Value} {l : List Int} (h : Row w B v l) : ∀ g, v.ownBlock = some g → B ≤ g ∧ g < w.heap.size := World.ownsRow.lt h
theorem Row.below {w w' : World} {B : Nat} {v : Value} {l : List Int} (h : Row w B v l) (hb : Below w.heap.size w w') : Row w' B v l :=
  h.keep fun g hg => hb.block g (h.lt g hg).2
theorem Row.other {w : World} {B : Nat} {v : Value} {l : List Int} (h : Row w B v l) {a : Addr} (ha : v.ownBlock ≠ some a.block) (u : Value) : Row (w.setCell a u) B v l := ownsRow_setCell_other h ha u
theorem Row.grown {w w' : World} {B : Nat} {v : Value} {l : List Int} (h : Row w B v l) (hg : w.grownBy w' none) : Row w' B v l :=
  h.keep fun g e => hg.block g (h.lt g e).2 (by simp)
theorem Row.alloc {w : World} {B : Nat} {v : Value} {l : List Int} (h : Row w B v l) (o : Obj) : Row (w.alloc o) B v l := World.ownsRow.alloc h o
theorem Row.drew {w : World} {B : Nat} {v : Value} {l : List Int} (h : Row w B v l) : Row w.drew B v l := h
theorem Row.drewN {w : World} {B : Nat} {v : Value} {l : List Int} (h : Row w B v l) (n : Nat) : Row (w.drewN n) B v l := h
theorem Row.mono {w : World} {B B' : Nat} {v : Value} {l : List Int} (h : Row w B v l) (hB : B' ≤ B) : Row w B' v l := by
  refine ⟨h.1, ?_⟩
  rcases h.2 with hn | ⟨g, cap, cur, hv, hb, r⟩
  · exact .inl hn
  · exact .inr ⟨g, cap, cur, hv, Nat.le_trans hB hb, r⟩
theorem Row.appended {w : World} {B : Nat} {v' : Value} {l : List Int} {x : Int} (h : w.ownsRow B 3 1 v' (l.length + 1) (l.map (Value.int .i64) ++ [.int .i64 x])) : Row w B v' (l ++ [x]) := by
  unfold Row
  simpa using h

set_option maxHeartbeats 400000 in
/-- spec.fdDigits. -/
theorem fdDigits_any (q a : Int) (w : World) (h : isSz q = true) (h0 : 0 ≤ a) (h1 : a < q) :
    Calls Try.prog 70 #[.int .i64 q, .int .i64 a] w fun e w' => ∃ v, e = .returned v ∧ Row w' w.heap.size v (digs (plN q) (pr q) a) ∧ Below w.heap.size w w' := by
  obtain ⟨i0, hi, hz0, hz1, hz2⟩ := info_parts Try.infoI
  have hp := pr_bd q h
  have hk := plN_bd q h
  have hq := isSz_le q h
  have hc := fdPrime_any q w h
  unfold pl at hc
  clear h
  generalize pr q = p at *
  generalize plN q = k at *
  obtain ⟨hp2, hp13⟩ := hp
  obtain ⟨hk1, hk4⟩ := hk
  have HC := Lib.hid hc; clear hc
  go_enter Try.func70, Try.ntmps70
  go_wp2_with (go_at_call 69; refine (HC.out).mono ?_; rintro e w1 ⟨rfl, rfl⟩)
  go_loopw [1, 6, 7] (fun va vk vo wr => ∃ (r : Nat) (b : Int) (dn : List Int), r ≤ k ∧ 0 ≤ b ∧ b ≤ 16 ∧ va = .int .i64 b ∧ vk = .int .i64 r ∧ dn ++ digs r p b = digs k p a ∧ dn.length + r = k ∧ Row wr w.heap.size vo dn ∧ Below w.heap.size w wr) (fun _ vk _ _ => (intOf vk).toNat)
  case atStart => exact ⟨k, a, [], Nat.le_refl _, h0, by omega, rfl, rfl, rfl, by simp, Row.nil _ _, Below.refl _ _⟩
  case round =>
    obtain ⟨r, b, dn, hr, hb0, hb1, rfl, rfl, hdn, hlen, hrow, hbel⟩ := hrel
    have HD := Lib.hid hdn; clear hdn
    have HL := Lib.hid hlen; clear hlen
    have HR := Lib.hid hrow; clear hrow
    have HB := Lib.hid hbel; clear hbel
    have hsz := HB.out.size
    by_cases hr0 : 0 < r
    · have hmod0 : 0 ≤ b % p := Int.emod_nonneg _ (by omega)
      have hmod1 : b % p < 13 := Int.lt_of_lt_of_le (Int.emod_lt_of_pos _ (by omega)) hp13
      have hdiv0 : 0 ≤ b / p := Int.ediv_nonneg hb0 (by omega)
      have hdiv1 : b / p ≤ 16 := Int.le_trans (Int.ediv_le_self _ hb0) hb1
      go_wp2_with (at_builtin; refine wpList_append_own _ rfl _ _ 22 rfl w.heap.size 3 i0 (.int .i64 0) 1 8 Try.underlying22 hi hz0 hz1 hz2 rfl (by decide) _ _ _ rfl (World.ownsRow.alloc HR.out _) ⟨wr.heap.size, 0, none⟩ 1 1 [.int .i64 (b % p)] rfl rfl ?c1 ?c2 ?c3 ?c4 ?c5 ?_)
      case c1 => exact cell_one_new _ _ _
      case c2 => intro u hu; simp at hu; subst hu; rfl
      case c3 => have := HL.out; unfold maxLen; omega
      case c4 => have := HL.out; omega
      case c5 => simp; omega
      intro v' w1 hown hgrow _
      have HR1 := Lib.hid (Row.appended hown)
      have HB1 := Lib.hid ((HB.out.alloc hsz (.cells #[.int .i64 (b % p)] 3)).grown hgrow (by simp; omega) (fun g hg => (HR.out.lt g hg).1))
      clear hown hgrow
      go_wp2
      go_roundw
      case rel =>
        refine ⟨r - 1, b / p, dn ++ [b % p], by omega, hdiv0, hdiv1, rfl, by go_num, ?_, by have := HL.out; simp; omega, HR1.out, HB1.out⟩
        rw [← HD.out]
        obtain ⟨r', rfl⟩ : ∃ r', r = r' + 1 := ⟨r - 1, by omega⟩
        simp [digs]
      case measure => simp [intOf]; omega
    · go_wp2
      go_ret
      have : r = 0 := by omega
      subst this
      have e := HD.out
      simp only [digs, List.append_nil] at e
      exact ⟨_, rfl, e ▸ HR.out, HB.out⟩

theorem drop_getD (l : List Int) (j : Nat) (hj : j < l.length) : l.drop j = l.getD j 0 :: l.drop (j + 1) := by
  rw [List.drop_eq_getElem_cons hj]
  simp [List.getD, hj]
set_option maxHeartbeats 400000 in
/-- spec.fdFrom: of any digits below p, seven at most. -/
theorem fdFrom_any (q : Int) (l : List Int) (g cap : Nat) (w : World) (h : isSz q = true) (hl : AllIn (pr q) l) (h7 : l.length ≤ 7)
    (hc : ∀ i, i < l.length → w.cell? ⟨g, i, none⟩ = some (.int .i64 (l.getD i 0))) :
    Calls Try.prog 71 #[.int .i64 q, .slice (some ⟨g, 0, none⟩) l.length cap] w fun e w' => e = .returned (.int .i64 (frm (pr q) l)) ∧ w = w' := by
  have hp := pr_bd q h
  have hcl := fdPrime_any q w h
  clear h
  generalize pr q = p at *
  obtain ⟨hp2, hp13⟩ := hp
  have HC := Lib.hid hcl; clear hcl
  have HA := Lib.hid hl; clear hl
  have hX : ∀ j, 0 ≤ frm p (l.drop j) ∧ frm p (l.drop j) ≤ 62748517 := fun j => by
    have hb := frm_bd p (by omega) (l.drop j) (fun d hd => HA.out d (List.mem_of_mem_drop hd))
    have hx := pow_le p (by omega) hp13 (l.drop j).length (by rw [List.length_drop]; omega)
    omega
  have HX := Lib.hid hX; clear hX
  have HCC := Lib.hid hc; clear hc
  generalize hn : l.length = n at *
  have HN := Lib.hid hn; clear hn
  go_enter Try.func71, Try.ntmps71
  go_wp2_with (go_at_call 69; refine (HC.out).mono ?_; rintro e w1 ⟨rfl, rfl⟩)
  go_loop [7, 8] (fun va vi => ∃ j : Nat, j ≤ n ∧ va = .int .i64 (frm p (l.drop j)) ∧ vi = .int .i64 ((j : Int) - 1)) (fun _ vi => (intOf vi + 1).toNat)
  case atStart => exact ⟨n, Nat.le_refl _, by rw [List.drop_of_length_le (by rw [HN.out]; exact Nat.le_refl _)]; rfl, rfl⟩
  case round =>
    obtain ⟨j, hj, rfl, rfl⟩ := hrel
    cases j with
    | zero =>
      go_wp2
      go_ret
      exact ⟨rfl, rfl⟩
    | succ j =>
      have hcell := HCC.out j (by omega)
      obtain ⟨x0, x1⟩ := HX.out (j + 1)
      have hd := HA.out.getD (by omega) j
      have e : frm p (l.drop j) = frm p (l.drop (j + 1)) * p + l.getD j 0 := by rw [drop_getD l j (by rw [HN.out]; omega)]; rfl
      have HE := Lib.hid e; clear e
      have m0 : 0 ≤ frm p (l.drop (j + 1)) * p := Int.mul_nonneg x0 (by omega)
      have m1 : frm p (l.drop (j + 1)) * p ≤ 62748517 * 13 := Int.mul_le_mul x1 hp13 (by omega) (by omega)
      generalize frm p (l.drop (j + 1)) = X at *
      generalize hu : l.getD j 0 = u at *
      have HU := Lib.hid hu; clear hu
      obtain ⟨u0, u1⟩ := hd
      go_wp2
      go_round
      case rel => exact ⟨j, by omega, by rw [HE.out], by go_num⟩
      case measure => simp [intOf]
end Go.Proofs.Ythklnfanbegecac
