/- A bundle of texts: D R HB ID E F HC. -/
import Derived.Test.YtljijnanmpajaaaGreatKB
import Derived.Test.YtljijnanmpajaaaGreatKA
namespace Go.Proofs.YtljijnanmpajaaaGreat
open Go.RowKit
theorem Tryz.infoI : (Tryz.prog.info? 3).map (fun i => (i.zero, i.size, i.bytes)) = some (some (.int .i64 0), 1, 8) := by kernel_rfl

/-- v is a slice that holds the numbers l, in memory of blocks from B on that is written by nobody else. -/
def Row (w : World) (B : Nat) (v : Value) (l : List Int) : Prop := w.ownsRow B 3 1 v l.length (l.map (Value.int .i64))
theorem Row.nil (w : World) (B : Nat) : Row w B (.slice none 0 0) [] := World.ownsRow_nil _ _ _ _
theorem Row.form {w : World} {B : Nat} {v : Value} {l : List Int} (h : Row w B v l) (hl : 0 < l.length) : ∃ g cap, v = .slice (some ⟨g, 0, none⟩) l.length cap ∧ B ≤ g ∧ g < w.heap.size :=
  by
  rcases h.2 with ⟨_, h0⟩ | ⟨g, cap, cur, hv, hb, hg, _⟩
  · omega
  · exact ⟨g, cap, hv, hb, (Array.getElem?_eq_some_iff.1 hg).1⟩
theorem Row.cell {w : World} {B g cap : Nat} {l : List Int} (h : Row w B (.slice (some ⟨g, 0, none⟩) l.length cap) l) (i : Nat) (hi : i < l.length) : w.cell? ⟨g, i, none⟩ = some (.int .i64 (l.getD i 0)) := by
  rw [World.ownsRow.cellAt h i (by omega), List.getElem?_map, List.getElem?_eq_getElem hi]
  simp [List.getD, hi]
theorem Row.frozen {w : World} {B g n cap : Nat} {l : List Int} (h : Row w B (.slice (some ⟨g, 0, none⟩) n cap) l) (hn : n = l.length) (i : Nat) : w.frozen? ⟨g, i, none⟩ = false := by
  subst hn
  exact World.ownsRow.frozenAt h i
theorem Row.store {w : World} {B g n cap : Nat} {l : List Int} (h : Row w B (.slice (some ⟨g, 0, none⟩) n cap) l) (hn : n = l.length) (i : Nat) (x : Int) :
    Row (w.setCell ⟨g, i, none⟩ (.int .i64 x)) B (.slice (some ⟨g, 0, none⟩) n cap) (l.set i x) := by
  subst hn
  have := (World.ownsRow.stored h i (.int .i64 x)).1
  unfold Row
  rw [List.length_set, List.map_set]
  exact this
theorem Row.keep {w w' : World} {B : Nat} {v : Value} {l : List Int} (h : Row w B v l) (hk : ∀ g, v.ownBlock = some g → w'.heap[g]? = w.heap[g]?) : Row w' B v l := by
  refine ⟨h.1, ?_⟩
  rcases h.2 with hn | ⟨g, cap, cur, rfl, hb, hg, r⟩
  · exact .inl hn
  · exact .inr ⟨g, cap, cur, rfl, hb, (hk g rfl).trans hg, r⟩
theorem Row.lt {w : World} {B : Nat} {v : Value} {l : List Int} (h : Row w B v l) : ∀ g, v.ownBlock = some g → B ≤ g ∧ g < w.heap.size := World.ownsRow.lt h
theorem Row.below {w w' : World} {B : Nat} {v : Value} {l : List Int} (h : Row w B v l) (hb : Below w.heap.size w w') : Row w' B v l :=
  h.keep fun g hg => hb.block g (h.lt g hg).2
theorem Row.other {w : World} {B : Nat} {v : Value} {l : List Int} (h : Row w B v l) {a : Addr} (ha : v.ownBlock ≠ some a.block) (u : Value) : Row (w.setCell a u) B v l := ownsRow_setCell_other h ha u
theorem Row.grown {w w' : World} {B : Nat} {v : Value} {l : List Int} (h : Row w B v l) (hg : w.grownBy w' none) : Row w' B v l :=
  h.keep fun g e => hg.block g (h.lt g e).2 (by simp)
theorem Row.alloc {w : World} {B : Nat} {v : Value} {l : List Int} (h : Row w B v l) (o : Obj) : Row (w.alloc o) B v l := World.ownsRow.alloc h o
theorem Row.drew {w : World} {B : Nat} {v : Value} {l : List Int} (h : Row w B v l) : Row w.drew B v l := h
theorem Row.drewN {w : World} {B : Nat} {v : Value} {l : List Int} (h : Row w B v l) (n : Nat) : Row (w.drewN n) B v l := h
theorem Row.mono {w : World} {B B' : Nat} {v : Value} {l : List Int} (h : Row w B v l) (hB : B' ≤ B) : Row w B' v l := by
  refine ⟨h.1, ?_⟩
  rcases h.2 with hn | ⟨g, cap, cur, hv, hb, r⟩
  · exact .inl hn
  · exact .inr ⟨g, cap, cur, hv, Nat.le_trans hB hb, r⟩
theorem Row.appended {w : World} {B : Nat} {v' : Value} {l : List Int} {x : Int} (h : w.ownsRow B 3 1 v' (l.length + 1) (l.map (Value.int .i64) ++ [.int .i64 x])) : Row w B v' (l ++ [x]) := by
  unfold Row
  simpa using h

set_option maxHeartbeats 400000 in
/-- spec.fdDigits. -/
theorem fdDigits_any (q a : Int) (w : World) (h : isSz q = true) (h0 : 0 ≤ a) (h1 : a < q) :
    Calls Tryz.prog 207 #[.int .i64 q, .int .i64 a] w fun e w' => ∃ v, e = .returned v ∧ Row w' w.heap.size v (digs (plN q) (pr q) a) ∧ Below w.heap.size w w' := by
  obtain ⟨i0, hi, hz0, hz1, hz2⟩ := info_parts Tryz.infoI
  have hp := pr_bd q h
  have hk := plN_bd q h
  have hq := isSz_le q h
  have hc := fdPrime_any q w h
  unfold pl at hc
  clear h
  generalize pr q = p at *
  generalize plN q = k at *
  obtain ⟨hp2, hp13⟩ := hp
  obtain ⟨hk1, hk4⟩ := hk
  have HC := Lib.hid hc; clear hc
  go_enter Tryz.func207, Tryz.ntmps207
  go_wp2_with (go_at_call 206; refine (HC.out).mono ?_; rintro e w1 ⟨rfl, rfl⟩)
  go_loopw [1, 6, 7] (fun va vk vo wr => ∃ (r : Nat) (b : Int) (dn : List Int), r ≤ k ∧ 0 ≤ b ∧ b ≤ 16 ∧ va = .int .i64 b ∧ vk = .int .i64 r ∧ dn ++ digs r p b = digs k p a ∧ dn.length + r = k ∧ Row wr w.heap.size vo dn ∧ Below w.heap.size w wr) (fun _ vk _ _ => (intOf vk).toNat)
  case atStart => exact ⟨k, a, [], Nat.le_refl _, h0, by omega, rfl, rfl, rfl, by simp, Row.nil _ _, Below.refl _ _⟩
  case round =>
    obtain ⟨r, b, dn, hr, hb0, hb1, rfl, rfl, hdn, hlen, hrow, hbel⟩ := hrel
    have HD := Lib.hid hdn; clear hdn
    have HL := Lib.hid hlen; clear hlen
    have HR := Lib.hid hrow; clear hrow
    have HB := Lib.hid hbel; clear hbel
    have hsz := HB.out.size
    by_cases hr0 : 0 < r
    · have hmod0 : 0 ≤ b % p := Int.emod_nonneg _ (by omega)
      have hmod1 : b % p < 13 := Int.lt_of_lt_of_le (Int.emod_lt_of_pos _ (by omega)) hp13
      have hdiv0 : 0 ≤ b / p := Int.ediv_nonneg hb0 (by omega)
      have hdiv1 : b / p ≤ 16 := Int.le_trans (Int.ediv_le_self _ hb0) hb1
      go_wp2_with (at_builtin; refine wpList_append_own _ rfl _ _ 24 rfl w.heap.size 3 i0 (.int .i64 0) 1 8 Tryz.underlying24 hi hz0 hz1 hz2 rfl (by decide) _ _ _ rfl (World.ownsRow.alloc HR.out _) ⟨wr.heap.size, 0, none⟩ 1 1 [.int .i64 (b % p)] rfl rfl ?c1 ?c2 ?c3 ?c4 ?c5 ?_)
      case c1 => exact cell_one_new _ _ _
      case c2 => intro u hu; simp at hu; subst hu; rfl
      case c3 => have := HL.out; unfold maxLen; omega
      case c4 => have := HL.out; omega
      case c5 => simp; omega
      intro v' w1 hown hgrow _
      have HR1 := Lib.hid (Row.appended hown)
      have HB1 := Lib.hid ((HB.out.alloc hsz (.cells #[.int .i64 (b % p)] 3)).grown hgrow (by simp; omega) (fun g hg => (HR.out.lt g hg).1))
      clear hown hgrow
      go_wp2
      go_roundw
      case rel =>
        refine ⟨r - 1, b / p, dn ++ [b % p], by omega, hdiv0, hdiv1, rfl, by go_num, ?_, by have := HL.out; simp; omega, HR1.out, HB1.out⟩
        rw [← HD.out]
        obtain ⟨r', rfl⟩ : ∃ r', r = r' + 1 := ⟨r - 1, by omega⟩
        simp [digs]
      case measure => simp [intOf]; omega
    · go_wp2
      go_ret
      have : r = 0 := by omega
      subst this
      have e := HD.out
      simp only [digs, List.append_nil] at e
      exact ⟨_, rfl, e ▸ HR.out, HB.out⟩

theorem drop_getD (l : List Int) (j : Nat) (hj : j < l.length) : l.drop j = l.getD j 0 :: l.drop (j + 1) := by
  rw [List.drop_eq_getElem_cons hj]
  simp [List.getD, hj]
set_option maxHeartbeats 400000 in
/-- spec.fdFrom: of any digits below p, seven at most. -/
theorem fdFrom_any (q : Int) (l : List Int) (g cap : Nat) (w : World) (h : isSz q = true) (hl : AllIn (pr q) l) (h7 : l.length ≤ 7)
    (hc : ∀ i, i < l.length → w.cell? ⟨g, i, none⟩ = some (.int .i64 (l.getD i 0))) :
    Calls Tryz.prog 208 #[.int .i64 q, .slice (some ⟨g, 0, none⟩) l.length cap] w fun e w' => e = .returned (.int .i64 (frm (pr q) l)) ∧ w = w' := by
  have hp := pr_bd q h
  have hcl := fdPrime_any q w h
  clear h
  generalize pr q = p at *
  obtain ⟨hp2, hp13⟩ := hp
  have HC := Lib.hid hcl; clear hcl
  have HA := Lib.hid hl; clear hl
  have hX : ∀ j, 0 ≤ frm p (l.drop j) ∧ frm p (l.drop j) ≤ 62748517 := fun j => by
    have hb := frm_bd p (by omega) (l.drop j) (fun d hd => HA.out d (List.mem_of_mem_drop hd))
    have hx := pow_le p (by omega) hp13 (l.drop j).length (by rw [List.length_drop]; omega)
    omega
  have HX := Lib.hid hX; clear hX
  have HCC := Lib.hid hc; clear hc
  generalize hn : l.length = n at *
  have HN := Lib.hid hn; clear hn
  go_enter Tryz.func208, Tryz.ntmps208
  go_wp2_with (go_at_call 206; refine (HC.out).mono ?_; rintro e w1 ⟨rfl, rfl⟩)
  go_loop [7, 8] (fun va vi => ∃ j : Nat, j ≤ n ∧ va = .int .i64 (frm p (l.drop j)) ∧ vi = .int .i64 ((j : Int) - 1)) (fun _ vi => (intOf vi + 1).toNat)
  case atStart => exact ⟨n, Nat.le_refl _, by rw [List.drop_of_length_le (by rw [HN.out]; exact Nat.le_refl _)]; rfl, rfl⟩
  case round =>
    obtain ⟨j, hj, rfl, rfl⟩ := hrel
    cases j with
    | zero =>
      go_wp2
      go_ret
      exact ⟨rfl, rfl⟩
    | succ j =>
      have hcell := HCC.out j (by omega)
      obtain ⟨x0, x1⟩ := HX.out (j + 1)
      have hd := HA.out.getD (by omega) j
      have e : frm p (l.drop j) = frm p (l.drop (j + 1)) * p + l.getD j 0 := by rw [drop_getD l j (by rw [HN.out]; omega)]; rfl
      have HE := Lib.hid e; clear e
      have m0 : 0 ≤ frm p (l.drop (j + 1)) * p := Int.mul_nonneg x0 (by omega)
      have m1 : frm p (l.drop (j + 1)) * p ≤ 62748517 * 13 := Int.mul_le_mul x1 hp13 (by omega) (by omega)
      generalize frm p (l.drop (j + 1)) = X at *
      generalize hu : l.getD j 0 = u at *
      have HU := Lib.hid hu; clear hu
      obtain ⟨u0, u1⟩ := hd
      go_wp2
      go_round
      case rel => exact ⟨j, by omega, by rw [HE.out], by go_num⟩
      case measure => simp [intOf]
theorem Row.empty {w : World} {B : Nat} {v : Value} (h : Row w B v []) : ∃ a cap, v = .slice a 0 cap := by
  rcases h.2 with ⟨hv, _⟩ | ⟨g, cap, cur, hv, _⟩
  · exact ⟨_, _, hv⟩
  · exact ⟨_, _, hv⟩
/-- The numbers k, k + 1, .. -/
def mrk (k : Int) (n : Nat) : List Int := (List.range n).map fun i : Nat => k + (i : Int)
theorem mrk_len (k : Int) (n : Nat) : (mrk k n).length = n := by simp [mrk]
theorem mrk_succ (k : Int) (n : Nat) : mrk k (n + 1) = mrk k n ++ [k + (n : Int)] := by simp [mrk, List.range_succ]
theorem mrk_get (k : Int) (n i : Nat) (h : i < n) : (mrk k n).getD i 0 = k + (i : Int) := by
  simp [mrk, List.getD, h]
theorem mark_step (k : Int) (l : List Int) (i : Nat) (h : i < l.length) : (mrk k i ++ l.drop i).set i (k + (i : Int)) = mrk k (i + 1) ++ l.drop (i + 1) := by
  rw [mrk_succ, drop_getD l i h, List.set_append, mrk_len, if_neg (Nat.lt_irrefl _), Nat.sub_self]
  simp

/-- What the walk is told of a slice of integers that came in. -/
def IsRow (k : IntKind) (w : World) (a : Option Addr) (len cap : Nat) (zs : List Int) : Prop :=
  (a = none ∧ len = 0 ∧ cap = 0 ∧ zs = []) ∨
  ∃ x, a = some x ∧ len ≤ cap ∧ cap ≤ maxLen ∧ zs.length = cap ∧ (∀ i, i < zs.length → w.cell? (x.add i) = some (.int k (zs.getD i 0))) ∧ ∀ n ∈ zs, (Lit.int k n).wf = true
/-- v is a slice that reads as l, wherever it lies. -/
def Sl (w : World) (v : Value) (l : List Int) : Prop :=
  (l = [] ∧ ∃ a cap, v = .slice a 0 cap) ∨
  ∃ b off cap, v = .slice (some ⟨b, off, none⟩) l.length cap ∧ b < w.heap.size ∧ ∀ j, j < l.length → w.cell? ⟨b, off + j, none⟩ = some (.int .i64 (l.getD j 0))
theorem Sl.nil (w : World) : Sl w (.slice none 0 0) [] := .inl ⟨rfl, _, _, rfl⟩
theorem Row.sl {w : World} {B : Nat} {v : Value} {l : List Int} (h : Row w B v l) : Sl w v l := by
  by_cases hl : 0 < l.length
  · obtain ⟨g, cap, rfl, _, h2⟩ := h.form hl
    exact .inr ⟨g, 0, cap, rfl, h2, fun j hj => by rw [Nat.zero_add]; exact h.cell j hj⟩
  · obtain rfl : l = [] := List.length_eq_zero_iff.1 (by omega)
    obtain ⟨a, cap, rfl⟩ := h.empty
    exact .inl ⟨rfl, _, _, rfl⟩
theorem Sl.below {w w' : World} {v : Value} {l : List Int} {B : Nat} (h : Sl w v l) (hb : Below B w w') (hB : w.heap.size ≤ B) : Sl w' v l := by
  rcases h with h | ⟨b, off, cap, rfl, hlt, hc⟩
  · exact .inl h
  · exact .inr ⟨b, off, cap, rfl, by have := hb.size; omega, fun j hj => (hb.cell (p := ⟨b, off + j, none⟩) (show b < B by omega)).trans (hc j hj)⟩
theorem Sl.alloc {w : World} {v : Value} {l : List Int} (h : Sl w v l) (o : Obj) : Sl (w.alloc o) v l := h.below (Below.refl _ _ |>.alloc (Nat.le_refl _) o) (Nat.le_refl _)
theorem Sl.open {w : World} {v : Value} {l : List Int} {n : Nat} (h : Sl w v l) (hn : l.length = n) (hp : 0 < n) : ∃ b off cap, v = .slice (some ⟨b, off, none⟩) n cap ∧ b < w.heap.size ∧ ∀ j, j < n → w.cell? ⟨b, off + j, none⟩ = some (.int .i64 (l.getD j 0)) := by
  subst hn
  rcases h with ⟨rfl, _⟩ | h
  · simp at hp
  · exact h
theorem Sl.empty {w : World} {v : Value} (h : Sl w v []) : ∃ a cap, v = .slice a 0 cap := by
  rcases h with ⟨_, h⟩ | ⟨b, off, cap, h, _⟩
  · exact h
  · exact ⟨_, _, h⟩
theorem IsRow.sl {w : World} {a : Option Addr} {len cap : Nat} {zs : List Int} (h : IsRow .i64 w a len cap zs) : Sl w (.slice a len cap) (zs.take len) ∧ (zs.take len).length = len ∧ ∀ n ∈ zs.take len, (Lit.int .i64 n).wf = true := by
  rcases h with ⟨rfl, rfl, rfl, rfl⟩ | ⟨x, rfl, hl, hm, hz, hcell, hwz⟩
  · exact ⟨.inl ⟨rfl, _, _, rfl⟩, rfl, by simp⟩
  · have hlen : (zs.take len).length = len := by rw [List.length_take]; omega
    refine ⟨?_, hlen, fun n hn => hwz n (List.mem_of_mem_take hn)⟩
    by_cases h0 : len = 0
    · subst h0
      exact .inl ⟨by simp, _, _, rfl⟩
    · obtain ⟨b, off, spot⟩ := x
      have hc := hcell 0 (by omega)
      have hspot : spot = none := by simpa [Addr.add] using World.cell?_spot hc
      subst hspot
      have hc' : ∀ j, j < len → w.cell? ⟨b, off + j, none⟩ = some (.int .i64 ((zs.take len).getD j 0)) := by
        intro j hj
        have := hcell j (by omega)
        rw [show (zs.take len).getD j 0 = zs.getD j 0 from by simp [List.getD, hj]]
        have e : (⟨b, off, none⟩ : Addr).add j = ⟨b, off + j, none⟩ := by by_cases h0 : j = 0 <;> simp [Addr.add, h0]
        rw [← e]
        exact this
      exact .inr ⟨b, off, cap, by rw [hlen], World.block_lt_of_cell? w _ (hc' 0 (by omega)), fun j hj => hc' j (by omega)⟩
set_option maxHeartbeats 400000 in
/-- spec.fdPlus. -/
theorem fdPlus_any (q a b : Int) (w : World) (h : isSz q = true) (a0 : 0 ≤ a) (a1 : a < q) (b0 : 0 ≤ b) (b1 : b < q) :
    Calls Tryz.prog 177 #[.int .i64 q, .int .i64 a, .int .i64 b] w fun e w' => e = .returned (.int .i64 (addF q a b)) ∧ Below w.heap.size w w' := by
  have hp := pr_bd q h
  have hk := plN_bd q h
  have HM := Lib.hid (plus_model q a b h a0 a1 b0 b1)
  have HP := Lib.hid (fdPrime_any q)
  have HDa := Lib.hid (fun w => fdDigits_any q a w h a0 a1)
  have HDb := Lib.hid (fun w => fdDigits_any q b w h b0 b1)
  have HF := Lib.hid (fdFrom_any q)
  have hx := digs_in (plN q) (pr q) a (by omega)
  have hy := digs_in (plN q) (pr q) b (by omega)
  have hxl := digs_len (plN q) (pr q) a
  have hyl := digs_len (plN q) (pr q) b
  generalize digs (plN q) (pr q) a = x at *
  generalize digs (plN q) (pr q) b = y at *
  have H := Lib.hid h; clear h
  have HX := Lib.hid hx; clear hx
  have HY := Lib.hid hy; clear hy
  have HXL := Lib.hid hxl; clear hxl
  have HYL := Lib.hid hyl; clear hyl
  unfold pl at HP
  generalize hpe : pr q = p at *
  have HPE := Lib.hid hpe; clear hpe
  generalize hke : plN q = k at *
  have HKE := Lib.hid hke; clear hke
  obtain ⟨hp2, hp13⟩ := hp
  obtain ⟨hk1, hk4⟩ := hk
  go_enter Tryz.func177, Tryz.ntmps177
  go_wp2_with (go_at_call 206; refine (HP.out _ H.out).mono ?_; rintro e w1 ⟨rfl, rfl⟩)
  refine (HDa.out _).mono ?_
  rintro e w1 ⟨v1, rfl, hr1, hb1⟩
  obtain ⟨g1, c1, rfl, hg1, hg1'⟩ := hr1.form (by rw [HXL.out]; omega)
  rw [HXL.out] at hr1 ⊢
  have HR1 := Lib.hid hr1; clear hr1
  have HB1 := Lib.hid hb1; clear hb1
  have hz1 := HB1.out.size
  go_wp2_with fail
  refine (HDb.out _).mono ?_
  rintro e w2 ⟨v2, rfl, hr2, hb2⟩
  obtain ⟨g2, c2, rfl, hg2, hg2'⟩ := hr2.form (by rw [HYL.out]; omega)
  rw [HYL.out] at hr2 ⊢
  have HR2 := Lib.hid hr2; clear hr2
  have HB2 := Lib.hid hb2; clear hb2
  have hz2 := HB2.out.size
  go_wp2_with fail
  go_loopw [25] (fun vi wr => ∃ i : Nat, i ≤ k ∧ vi = .int .i64 i ∧ Row wr w.heap.size (.slice (some ⟨g1, 0, none⟩) k c1) (plusTo p y x i) ∧ Row wr w.heap.size (.slice (some ⟨g2, 0, none⟩) k c2) y ∧ Below w.heap.size w wr) (fun vi _ => k - (intOf vi).toNat)
  case atStart => exact ⟨0, Nat.zero_le _, rfl, HR1.out.below HB2.out, HR2.out.mono hz1, HB1.out.trans (HB2.out.mono hz1)⟩
  case round =>
    obtain ⟨i, hi, rfl, hr1, hr2, hb⟩ := hrel
    have HLi := Lib.hid (plusTo_in p y x i (by omega) HX.out)
    have HR1' := Lib.hid hr1; clear hr1
    have HR2' := Lib.hid hr2; clear hr2
    have HB' := Lib.hid hb; clear hb
    have hz' := HB'.out.size
    by_cases hlt : i < k
    · have hd1 := HLi.out.1.getD (by omega) i
      have hd2 := HY.out.getD (by omega) i
      have hc1 := Row.cell (l := plusTo p y x i) (cap := c1) (by rw [HLi.out.2, HXL.out]; exact HR1'.out) i (by rw [HLi.out.2, HXL.out]; exact hlt)
      have hc2 := Row.cell (l := y) (cap := c2) (by rw [HYL.out]; exact HR2'.out) i (by rw [HYL.out]; exact hlt)
      have hf1 := HR1'.out.frozen (by rw [HLi.out.2, HXL.out]) i
      have HS := Lib.hid (plusTo_succ p y x i)
      generalize hu1 : (plusTo p y x i).getD i 0 = u1 at *
      have HU1 := Lib.hid hu1; clear hu1
      generalize hu2 : y.getD i 0 = u2 at *
      have HU2 := Lib.hid hu2; clear hu2
      obtain ⟨d1, d2⟩ := hd1
      obtain ⟨d3, d4⟩ := hd2
      have hmod0 : 0 ≤ (u1 + u2) % p := Int.emod_nonneg _ (by omega)
      have hmod1 : (u1 + u2) % p < 13 := Int.lt_of_lt_of_le (Int.emod_lt_of_pos _ (by omega)) hp13
      go_wp2_with fail
      go_region
      go_wp2
      go_roundw
      case rel =>
        refine ⟨i + 1, by omega, by go_num, ?_, ?_, ?_⟩
        · rw [HS.out]
          exact (HR1'.out.store (by rw [HLi.out.2, HXL.out]) i _)
        · exact HR2'.out.other (by simp [Value.ownBlock]; omega) _
        · exact (HB'.out.setCell (by omega) _).drew
      case measure => simp [intOf]; omega
    · obtain rfl : i = k := by omega
      have hlen : (plusTo p y x i).length = i := by rw [HLi.out.2, HXL.out]
      have hcc := HF.out (plusTo p y x i) g1 c1 wr H.out HLi.out.1 (by rw [hlen]; omega) (fun j hj => Row.cell (cap := c1) (by rw [hlen]; exact HR1'.out) j hj)
      rw [hlen] at hcc
      have HCC := Lib.hid hcc; clear hcc hlen
      go_wp2_with fail
      refine (HCC.out).mono ?_
      rintro e w3 ⟨rfl, rfl⟩
      go_wp2
      go_ret
      exact ⟨ret_int HM.out, HB'.out⟩
set_option maxHeartbeats 400000 in
/-- spec.fdLess. -/
theorem fdLess_any (q a b : Int) (w : World) (h : isSz q = true) (a0 : 0 ≤ a) (a1 : a < q) (b0 : 0 ≤ b) (b1 : b < q) :
    Calls Tryz.prog 175 #[.int .i64 q, .int .i64 a, .int .i64 b] w fun e w' => e = .returned (.int .i64 (subF q a b)) ∧ Below w.heap.size w w' := by
  have hp := pr_bd q h
  have hk := plN_bd q h
  have HM := Lib.hid (less_model q a b h a0 a1 b0 b1)
  have HP := Lib.hid (fdPrime_any q)
  have HDa := Lib.hid (fun w => fdDigits_any q a w h a0 a1)
  have HDb := Lib.hid (fun w => fdDigits_any q b w h b0 b1)
  have HF := Lib.hid (fdFrom_any q)
  have hx := digs_in (plN q) (pr q) a (by omega)
  have hy := digs_in (plN q) (pr q) b (by omega)
  have hxl := digs_len (plN q) (pr q) a
  have hyl := digs_len (plN q) (pr q) b
  generalize digs (plN q) (pr q) a = x at *
  generalize digs (plN q) (pr q) b = y at *
  have H := Lib.hid h; clear h
  have HX := Lib.hid hx; clear hx
  have HY := Lib.hid hy; clear hy
  have HXL := Lib.hid hxl; clear hxl
  have HYL := Lib.hid hyl; clear hyl
  unfold pl at HP
  generalize hpe : pr q = p at *
  have HPE := Lib.hid hpe; clear hpe
  generalize hke : plN q = k at *
  have HKE := Lib.hid hke; clear hke
  obtain ⟨hp2, hp13⟩ := hp
  obtain ⟨hk1, hk4⟩ := hk
  go_enter Tryz.func175, Tryz.ntmps175
  go_wp2_with (go_at_call 206; refine (HP.out _ H.out).mono ?_; rintro e w1 ⟨rfl, rfl⟩)
  refine (HDa.out _).mono ?_
  rintro e w1 ⟨v1, rfl, hr1, hb1⟩
  obtain ⟨g1, c1, rfl, hg1, hg1'⟩ := hr1.form (by rw [HXL.out]; omega)
  rw [HXL.out] at hr1 ⊢
  have HR1 := Lib.hid hr1; clear hr1
  have HB1 := Lib.hid hb1; clear hb1
  have hz1 := HB1.out.size
  go_wp2_with fail
  refine (HDb.out _).mono ?_
  rintro e w2 ⟨v2, rfl, hr2, hb2⟩
  obtain ⟨g2, c2, rfl, hg2, hg2'⟩ := hr2.form (by rw [HYL.out]; omega)
  rw [HYL.out] at hr2 ⊢
  have HR2 := Lib.hid hr2; clear hr2
  have HB2 := Lib.hid hb2; clear hb2
  have hz2 := HB2.out.size
  go_wp2_with fail
  go_loopw [25] (fun vi wr => ∃ i : Nat, i ≤ k ∧ vi = .int .i64 i ∧ Row wr w.heap.size (.slice (some ⟨g1, 0, none⟩) k c1) (lessTo p y x i) ∧ Row wr w.heap.size (.slice (some ⟨g2, 0, none⟩) k c2) y ∧ Below w.heap.size w wr) (fun vi _ => k - (intOf vi).toNat)
  case atStart => exact ⟨0, Nat.zero_le _, rfl, HR1.out.below HB2.out, HR2.out.mono hz1, HB1.out.trans (HB2.out.mono hz1)⟩
  case round =>
    obtain ⟨i, hi, rfl, hr1, hr2, hb⟩ := hrel
    have HLi := Lib.hid (lessTo_in p y x i (by omega) HX.out)
    have HR1' := Lib.hid hr1; clear hr1
    have HR2' := Lib.hid hr2; clear hr2
    have HB' := Lib.hid hb; clear hb
    have hz' := HB'.out.size
    by_cases hlt : i < k
    · have hd1 := HLi.out.1.getD (by omega) i
      have hd2 := HY.out.getD (by omega) i
      have hc1 := Row.cell (l := lessTo p y x i) (cap := c1) (by rw [HLi.out.2, HXL.out]; exact HR1'.out) i (by rw [HLi.out.2, HXL.out]; exact hlt)
      have hc2 := Row.cell (l := y) (cap := c2) (by rw [HYL.out]; exact HR2'.out) i (by rw [HYL.out]; exact hlt)
      have hf1 := HR1'.out.frozen (by rw [HLi.out.2, HXL.out]) i
      have HS := Lib.hid (lessTo_succ p y x i)
      generalize hu1 : (lessTo p y x i).getD i 0 = u1 at *
      have HU1 := Lib.hid hu1; clear hu1
      generalize hu2 : y.getD i 0 = u2 at *
      have HU2 := Lib.hid hu2; clear hu2
      obtain ⟨d1, d2⟩ := hd1
      obtain ⟨d3, d4⟩ := hd2
      have hmod0 : 0 ≤ (u1 + p - u2) % p := Int.emod_nonneg _ (by omega)
      have hmod1 : (u1 + p - u2) % p < 13 := Int.lt_of_lt_of_le (Int.emod_lt_of_pos _ (by omega)) hp13
      go_wp2_with fail
      go_region
      go_wp2
      go_roundw
      case rel =>
        refine ⟨i + 1, by omega, by go_num, ?_, ?_, ?_⟩
        · rw [HS.out]
          exact (HR1'.out.store (by rw [HLi.out.2, HXL.out]) i _)
        · exact HR2'.out.other (by simp [Value.ownBlock]; omega) _
        · exact (HB'.out.setCell (by omega) _).drew
      case measure => simp [intOf]; omega
    · obtain rfl : i = k := by omega
      have hlen : (lessTo p y x i).length = i := by rw [HLi.out.2, HXL.out]
      have hcc := HF.out (lessTo p y x i) g1 c1 wr H.out HLi.out.1 (by rw [hlen]; omega) (fun j hj => Row.cell (cap := c1) (by rw [hlen]; exact HR1'.out) j hj)
      rw [hlen] at hcc
      have HCC := Lib.hid hcc; clear hcc hlen
      go_wp2_with fail
      refine (HCC.out).mono ?_
      rintro e w3 ⟨rfl, rfl⟩
      go_wp2
      go_ret
      exact ⟨ret_int HM.out, HB'.out⟩
set_option maxHeartbeats 1000000 in
/-- spec.fdModulus. -/
theorem fdModulus_any (q : Int) (w : World) (h : isSz q = true) :
    Calls Tryz.prog 209 #[.int .i64 q] w fun e w' => ∃ v, e = .returned v ∧ Row w' w.heap.size v (mdl q) ∧ Below w.heap.size w w' := by
  have hq := sz_split q h
  clear h
  rcases hq with rfl | rfl | rfl | rfl | rfl | rfl | rfl | rfl | rfl | rfl
  all_goals
    go_enter Tryz.func209, Tryz.ntmps209
    go_wp2
    go_ret
    exact ⟨_, rfl, World.ownsRow_lit _ _ _ (Nat.le_refl _) (by decide) rfl, by (repeat' (first | (with_reducible assumption) | (with_reducible exact Below.refl _ _) | (with_reducible refine below_drewN ?_ _) | (with_reducible refine Below.drew ?_) | (with_reducible refine Below.alloc ?_ ?_ _) | (with_reducible refine Below.setCell ?_ ?_ _) | (with_reducible refine Below.trans ?_ (Below.mono (by assumption) ?_)) | (with_reducible exact Nat.le_refl _) | (with_reducible assumption) | omega | (simp; omega) | (simp; done)))⟩

/-- The four rows of a product. -/
structure T4 (w0 wr : World) (g1 c1 g2 c2 g3 c3 g4 c4 k n : Nat) (x y m L : List Int) : Prop where
  rx : Row wr w0.heap.size (.slice (some ⟨g1, 0, none⟩) k c1) x
  ry : Row wr w0.heap.size (.slice (some ⟨g2, 0, none⟩) k c2) y
  rm : Row wr w0.heap.size (.slice (some ⟨g3, 0, none⟩) k c3) m
  rL : Row wr w0.heap.size (.slice (some ⟨g4, 0, none⟩) n c4) L
  bel : Below w0.heap.size w0 wr
  ne1 : g1 < g4
  ne2 : g2 < g4
  ne3 : g3 < g4
  ge4 : w0.heap.size ≤ g4
theorem T4.store {w0 wr : World} {g1 c1 g2 c2 g3 c3 g4 c4 k n : Nat} {x y m L : List Int} (h : T4 w0 wr g1 c1 g2 c2 g3 c3 g4 c4 k n x y m L) (hn : n = L.length) (i : Nat) (u : Int) :
    T4 w0 (wr.setCell ⟨g4, i, none⟩ (.int .i64 u)) g1 c1 g2 c2 g3 c3 g4 c4 k n x y m (L.set i u) := by
  obtain ⟨h1, h2, h3, h4, h5, h6, h7, h8, h9⟩ := h
  exact ⟨h1.other (by simp [Value.ownBlock]; omega) _, h2.other (by simp [Value.ownBlock]; omega) _, h3.other (by simp [Value.ownBlock]; omega) _, h4.store hn i u, h5.setCell h9 _, h6, h7, h8, h9⟩
theorem T4.drew {w0 wr : World} {g1 c1 g2 c2 g3 c3 g4 c4 k n : Nat} {x y m L : List Int} (h : T4 w0 wr g1 c1 g2 c2 g3 c3 g4 c4 k n x y m L) : T4 w0 wr.drew g1 c1 g2 c2 g3 c3 g4 c4 k n x y m L :=
  ⟨h.1, h.2, h.3, h.4, h.5.drew, h.6, h.7, h.8, h.9⟩

set_option maxRecDepth 100000 in
set_option maxHeartbeats 1000000 in
/-- spec.fdTimes at a prime. -/
theorem fdTimes_one (q a b : Int) (w : World) (h : isSz q = true) (a0 : 0 ≤ a) (a1 : a < q) (b0 : 0 ≤ b) (b1 : b < q) (hk : plN q = 1) :
    Calls Tryz.prog 178 #[.int .i64 q, .int .i64 a, .int .i64 b] w fun e w' => e = .returned (.int .i64 (mulF q a b)) ∧ Below w.heap.size w w' := by
  have hp := pr_bd q h
  have hq := isSz_le q h
  have hm := times_model q a b h a0 a1 b0 b1
  simp only [timesM, hk, if_true] at hm
  have HM := Lib.hid hm; clear hm
  have hc := fdPrime_any q w h
  simp only [pl, hk] at hc
  have HP := Lib.hid hc; clear hc
  have m0 : 0 ≤ a * b := Int.mul_nonneg a0 b0
  have m1 : a * b ≤ 16 * 16 := Int.mul_le_mul (by omega) (by omega) b0 (by omega)
  clear hk
  generalize pr q = p at *
  obtain ⟨hp2, hp13⟩ := hp
  have r0 : 0 ≤ a * b % p := Int.emod_nonneg _ (by omega)
  have r1 : a * b % p < 13 := Int.lt_of_lt_of_le (Int.emod_lt_of_pos _ (by omega)) hp13
  go_enter Tryz.func178, Tryz.ntmps178
  go_wp2_with (go_at_call 206; refine (HP.out).mono ?_; rintro e w1 ⟨rfl, rfl⟩)
  go_ret
  exact ⟨ret_int HM.out, Below.refl _ _⟩

set_option maxRecDepth 100000 in
set_option maxHeartbeats 2000000 in
/-- spec.fdTimes at the others. -/
theorem fdTimes_many (q a b : Int) (w : World) (h : isSz q = true) (a0 : 0 ≤ a) (a1 : a < q) (b0 : 0 ≤ b) (b1 : b < q) (hk : plN q ≠ 1) :
    Calls Tryz.prog 178 #[.int .i64 q, .int .i64 a, .int .i64 b] w fun e w' => e = .returned (.int .i64 (mulF q a b)) ∧ Below w.heap.size w w' := by
  obtain ⟨i0, hi, hz0, hz1, hz2⟩ := info_parts Tryz.infoI
  have hp := pr_bd q h
  have hk' := plN_bd q h
  have hm := times_model q a b h a0 a1 b0 b1
  simp only [timesM, if_neg hk] at hm
  have HM := Lib.hid hm; clear hm
  have HP := Lib.hid (fdPrime_any q)
  have HDa := Lib.hid (fun w => fdDigits_any q a w h a0 a1)
  have HDb := Lib.hid (fun w => fdDigits_any q b w h b0 b1)
  have HMo := Lib.hid (fun w => fdModulus_any q w h)
  have HF := Lib.hid (fdFrom_any q)
  have hx := digs_in (plN q) (pr q) a (by omega)
  have hy := digs_in (plN q) (pr q) b (by omega)
  have hxl := digs_len (plN q) (pr q) a
  have hyl := digs_len (plN q) (pr q) b
  obtain ⟨hml, hmi⟩ := mdl_len q h
  generalize digs (plN q) (pr q) a = x at *
  generalize digs (plN q) (pr q) b = y at *
  generalize mdl q = m at *
  have H := Lib.hid h; clear h
  have HX := Lib.hid hx; clear hx
  have HY := Lib.hid hy; clear hy
  have HMI := Lib.hid hmi; clear hmi
  have HXL := Lib.hid hxl; clear hxl
  have HYL := Lib.hid hyl; clear hyl
  have HML := Lib.hid hml; clear hml
  unfold pl at HP
  generalize hpe : pr q = p at *
  have HPE := Lib.hid hpe; clear hpe
  generalize hke : plN q = k at *
  have HKE := Lib.hid hke; clear hke
  obtain ⟨hp2, hp13⟩ := hp
  obtain ⟨hk1, hk4⟩ := hk'
  have hk2 : 2 ≤ k := by omega
  have hkn : ((k : Int) == 1) = false := by simp; omega
  clear hk hk1
  go_enter Tryz.func178, Tryz.ntmps178
  go_wp2_with (go_at_call 206; refine (HP.out _ H.out).mono ?_; rintro e w1 ⟨rfl, rfl⟩)
  refine (HDa.out _).mono ?_
  rintro e w1 ⟨v1, rfl, hr1, hb1⟩
  obtain ⟨g1, c1, rfl, hg1, hg1'⟩ := hr1.form (by rw [HXL.out]; omega)
  rw [HXL.out] at hr1 ⊢
  have HR1 := Lib.hid hr1; clear hr1
  have HB1 := Lib.hid hb1; clear hb1
  have hz1' := HB1.out.size
  go_wp2_with fail
  refine (HDb.out _).mono ?_
  rintro e w2 ⟨v2, rfl, hr2, hb2⟩
  obtain ⟨g2, c2, rfl, hg2, hg2'⟩ := hr2.form (by rw [HYL.out]; omega)
  rw [HYL.out] at hr2 ⊢
  have HR2 := Lib.hid hr2; clear hr2
  have HB2 := Lib.hid hb2; clear hb2
  have hz2' := HB2.out.size
  go_wp2_with fail
  refine (HMo.out _).mono ?_
  rintro e w3 ⟨v3, rfl, hr3, hb3⟩
  obtain ⟨g3, c3, rfl, hg3, hg3'⟩ := hr3.form (by rw [HML.out]; omega)
  rw [HML.out] at hr3 ⊢
  have HR3 := Lib.hid hr3; clear hr3
  have HB3 := Lib.hid hb3; clear hb3
  have hz3' := HB3.out.size
  go_wp2_with (at_make; refine wpList_make_full _ rfl _ _ 24 rfl w.heap.size 3 i0 (.int .i64 0) 1 Tryz.underlying24 hi hz0 hz1 .i64 .i64 _ _ (2 * k - 1) rfl rfl ?c1 ?c2 ?c3 ?c4 ?c5 ?_)
  case c1 => omega
  case c2 => omega
  case c3 => rw [hz2]; omega
  case c4 => unfold maxLen; omega
  case c5 => omega
  intro w4 hown hgrow
  have hr4 : Row w4 w.heap.size (.slice (some ⟨w3.heap.size, 0, none⟩) (2 * k - 1) (2 * k - 1)) (List.replicate (2 * k - 1) 0) := by
    unfold Row
    rw [List.length_replicate, List.map_replicate]
    rw [toList_madeCells_one] at hown
    exact hown
  have ht : T4 w w4 g1 c1 g2 c2 g3 c3 w3.heap.size (2 * k - 1) k (2 * k - 1) x y m (outTo p y x (List.replicate (2 * k - 1) 0) 0) :=
    ⟨((HR1.out.below HB2.out).below HB3.out).grown hgrow, (HR2.out.mono hz1').below HB3.out |>.grown hgrow, (HR3.out.mono (by omega)).grown hgrow, hr4,
      (HB1.out.trans ((HB2.out.mono hz1').trans (HB3.out.mono (by omega)))).grown hgrow (by omega) (fun k hk => by cases hk), by omega, by omega, by omega, by omega⟩
  have HT := Lib.hid ht
  clear ht hr4 hown hgrow
  generalize w3.heap.size = g4 at *
  generalize hc4 : 2 * k - 1 = n4 at *
  have HC4 := Lib.hid hc4; clear hc4
  have HRI : Hid (AllIn p (List.replicate n4 0)) := Lib.hid (fun d hd => by have := List.eq_of_mem_replicate hd; omega)
  go_wp2_with fail
  go_loopw [46] (fun vi wr => ∃ i : Nat, i ≤ k ∧ vi = .int .i64 i ∧ T4 w wr g1 c1 g2 c2 g3 c3 g4 n4 k n4 x y m (outTo p y x (List.replicate n4 0) i)) (fun vi _ => k - (intOf vi).toNat)
  case atStart => exact ⟨0, Nat.zero_le _, rfl, HT.out⟩
  case round =>
    obtain ⟨i, hi, rfl, ht⟩ := hrel
    have HT1 := Lib.hid ht; clear ht
    obtain ⟨wo, rfl⟩ : ∃ wo : World, wo = wr := ⟨_, rfl⟩
    by_cases hlt : i < k
    · have hc1 := Row.cell (l := x) (cap := c1) (by rw [HXL.out]; exact HT1.out.rx) i (by rw [HXL.out]; exact hlt)
      have hd1 := HX.out.getD (by omega) i
      generalize hu1 : x.getD i 0 = u1 at *
      have HU1 := Lib.hid hu1; clear hu1
      obtain ⟨d1, d2⟩ := hd1
      go_wp2_with fail
      go_loopw [53] (fun vj wr => ∃ j : Nat, j ≤ k ∧ vj = .int .i64 j ∧ T4 w wr g1 c1 g2 c2 g3 c3 g4 n4 k n4 x y m (inTo p y u1 i (outTo p y x (List.replicate n4 0) i) j)) (fun vj _ => k - (intOf vj).toNat)
      case atStart => exact ⟨0, Nat.zero_le _, rfl, HT1.out⟩
      case round =>
        obtain ⟨j, hj, rfl, ht⟩ := hrel
        have HT2 := Lib.hid ht; clear ht
        have HLi := Lib.hid (inTo_in p y u1 i _ j (by omega) (outTo_in p y x (List.replicate n4 0) i (by omega) (HRI.out)).1)
        have hlen : (inTo p y u1 i (outTo p y x (List.replicate n4 0) i) j).length = n4 := by rw [HLi.out.2, (outTo_in p y x (List.replicate n4 0) i (by omega) (HRI.out)).2, List.length_replicate]
        have HLEN := Lib.hid hlen; clear hlen
        by_cases hjt : j < k
        · have hij : i + j < n4 := by rw [← HC4.out]; omega
          have hc2 := Row.cell (l := y) (cap := c2) (by rw [HYL.out]; exact HT2.out.ry) j (by rw [HYL.out]; exact hjt)
          have hd2 := HY.out.getD (by omega) j
          have hc4 := Row.cell (l := inTo p y u1 i (outTo p y x (List.replicate n4 0) i) j) (cap := n4) (by rw [HLEN.out]; exact HT2.out.rL) (i + j) (by rw [HLEN.out]; exact hij)
          have hf4 := HT2.out.rL.frozen HLEN.out.symm (i + j)
          have hd4 := HLi.out.1.getD (by omega) (i + j)
          have HS := Lib.hid (inTo_succ p y u1 i (outTo p y x (List.replicate n4 0) i) j)
          generalize hu2 : y.getD j 0 = u2 at *
          have HU2 := Lib.hid hu2; clear hu2
          generalize hu4 : (inTo p y u1 i (outTo p y x (List.replicate n4 0) i) j).getD (i + j) 0 = u4 at *
          have HU4 := Lib.hid hu4; clear hu4
          obtain ⟨d3, d4⟩ := hd2
          obtain ⟨d5, d6⟩ := hd4
          have m0 : 0 ≤ u1 * u2 := Int.mul_nonneg d1 d3
          have m1 : u1 * u2 ≤ 13 * 13 := Int.mul_le_mul (by omega) (by omega) d3 (by omega)
          have hmod0 : 0 ≤ (u4 + u1 * u2) % p := Int.emod_nonneg _ (by omega)
          have hmod1 : (u4 + u1 * u2) % p < 13 := Int.lt_of_lt_of_le (Int.emod_lt_of_pos _ (by omega)) hp13
          clear hc1
          go_wp2
          go_roundw
          case rel =>
            refine ⟨j + 1, by omega, by go_num, ?_⟩
            rw [HS.out]
            exact HT2.out.store HLEN.out.symm (i + j) _
          case measure => simp [intOf]; omega
        · obtain rfl : k = j := by omega
          go_wp2
          go_roundw
          case rel =>
            refine ⟨i + 1, by omega, by go_num, ?_⟩
            rw [outTo_succ, HU1.out, HYL.out]
            exact HT2.out
          case measure => simp [intOf]; omega
    · obtain rfl : k = i := by omega
      have hLo := outTo_in p y x (List.replicate n4 0) k (by omega) HRI.out
      rw [List.length_replicate] at hLo
      generalize outTo p y x (List.replicate n4 0) k = L0 at *
      have HLO := Lib.hid hLo; clear hLo
      clear hlt
      go_wp2_with fail
      go_loopw [17] (fun vt wr => ∃ t : Nat, k ≤ t + 1 ∧ t + 2 ≤ 2 * k ∧ vt = .int .i64 t ∧ T4 w wr g1 c1 g2 c2 g3 c3 g4 n4 k n4 x y m (routTo p k m L0 (2 * k - 2 - t))) (fun vt _ => (intOf vt).toNat)
      case atStart => exact ⟨2 * k - 2, by omega, by omega, by go_num, by rw [Nat.sub_self]; exact HT1.out⟩
      case round =>
        obtain ⟨t, ht1, ht2, rfl, ht⟩ := hrel
        have HT3 := Lib.hid ht; clear ht
        have HL3 := Lib.hid (routTo_in p k m L0 (2 * k - 2 - t) (by omega) HLO.out.1)
        obtain ⟨wo2, rfl⟩ : ∃ wo2 : World, wo2 = wr := ⟨_, rfl⟩
        by_cases htk : k ≤ t
        · go_wp2_with fail
          go_loopw [87] (fun vj wr => ∃ j : Nat, j ≤ k ∧ vj = .int .i64 j ∧ T4 w wr g1 c1 g2 c2 g3 c3 g4 n4 k n4 x y m (rinTo p k m t (routTo p k m L0 (2 * k - 2 - t)) j)) (fun vj _ => k - (intOf vj).toNat)
          case atStart => exact ⟨0, Nat.zero_le _, rfl, HT3.out⟩
          case round =>
            obtain ⟨j, hj, rfl, ht⟩ := hrel
            have HT4 := Lib.hid ht; clear ht
            have HL4 := Lib.hid (rinTo_in p k m t _ j (by omega) HL3.out.1)
            have hlen : (rinTo p k m t (routTo p k m L0 (2 * k - 2 - t)) j).length = n4 := by rw [HL4.out.2, HL3.out.2, HLO.out.2]
            have HLEN := Lib.hid hlen; clear hlen
            by_cases hjt : j < k
            · have hij : t - k + j < n4 := by rw [← HC4.out]; omega
              have htn : t < n4 := by rw [← HC4.out]; omega
              have hc3 := Row.cell (l := m) (cap := c3) (by rw [HML.out]; exact HT4.out.rm) j (by rw [HML.out]; exact hjt)
              have hd3 := HMI.out.getD (by omega) j
              have hc4 := Row.cell (l := rinTo p k m t (routTo p k m L0 (2 * k - 2 - t)) j) (cap := n4) (by rw [HLEN.out]; exact HT4.out.rL) (t - k + j) (by rw [HLEN.out]; exact hij)
              have hc5 := Row.cell (l := rinTo p k m t (routTo p k m L0 (2 * k - 2 - t)) j) (cap := n4) (by rw [HLEN.out]; exact HT4.out.rL) t (by rw [HLEN.out]; exact htn)
              have hf4 := HT4.out.rL.frozen HLEN.out.symm (t - k + j)
              have hd4 := HL4.out.1.getD (by omega) (t - k + j)
              have hd5 := HL4.out.1.getD (by omega) t
              have HS := Lib.hid (rinTo_succ p k m t (routTo p k m L0 (2 * k - 2 - t)) j)
              generalize hu3 : m.getD j 0 = u3 at *
              have HU3 := Lib.hid hu3; clear hu3
              generalize hu4 : (rinTo p k m t (routTo p k m L0 (2 * k - 2 - t)) j).getD (t - k + j) 0 = u4 at *
              have HU4 := Lib.hid hu4; clear hu4
              generalize hu5 : (rinTo p k m t (routTo p k m L0 (2 * k - 2 - t)) j).getD t 0 = u5 at *
              have HU5 := Lib.hid hu5; clear hu5
              obtain ⟨d3, d4⟩ := hd3
              obtain ⟨d5, d6⟩ := hd4
              obtain ⟨d7, d8⟩ := hd5
              have m0 : 0 ≤ (p - u3) * u5 := Int.mul_nonneg (by omega) d7
              have m1 : (p - u3) * u5 ≤ 13 * 13 := Int.mul_le_mul (by omega) (by omega) d7 (by omega)
              have hmod0 : 0 ≤ (u4 + (p - u3) * u5) % p := Int.emod_nonneg _ (by omega)
              have hmod1 : (u4 + (p - u3) * u5) % p < 13 := Int.lt_of_lt_of_le (Int.emod_lt_of_pos _ (by omega)) hp13
              go_wp2_with fail
              go_region
              go_wp2
              go_roundw
              case rel =>
                refine ⟨j + 1, by omega, by go_num, ?_⟩
                rw [HS.out]
                exact (HT4.out.store HLEN.out.symm (t - k + j) _).drew
              case measure => simp [intOf]; omega
            · obtain rfl : k = j := by omega
              go_wp2
              go_roundw
              case rel =>
                refine ⟨t - 1, by omega, by omega, by go_num, ?_⟩
                rw [show 2 * k - 2 - (t - 1) = 2 * k - 2 - t + 1 from by omega, routTo_succ, HML.out, show 2 * k - 2 - (2 * k - 2 - t) = t from by omega]
                exact HT4.out
              case measure => simp [intOf]; omega
        · have htk' : 2 * k - 2 - t = k - 1 := by omega
          rw [htk'] at HT3 HL3
          have hcc := HF.out ((routTo p k m L0 (k - 1)).take k) g4 n4 wo2 H.out (fun d hd => HL3.out.1 d (List.mem_of_mem_take hd)) (by rw [List.length_take]; omega)
            (fun j hj => by
              have hlen : (routTo p k m L0 (k - 1)).length = n4 := by rw [HL3.out.2, HLO.out.2]
              have hj' : j < k := by rw [List.length_take] at hj; omega
              rw [Row.cell (l := routTo p k m L0 (k - 1)) (cap := n4) (by rw [hlen]; exact HT3.out.rL) j (by rw [hlen, ← HC4.out]; omega)]
              simp [List.getD, hj'])
          have hlen : ((routTo p k m L0 (k - 1)).take k).length = k := by rw [List.length_take, HL3.out.2, HLO.out.2, ← HC4.out]; omega
          rw [hlen] at hcc
          have HCC := Lib.hid hcc; clear hcc hlen htk'
          have hkn4 : k ≤ n4 := by rw [← HC4.out]; omega
          go_wp2_with fail
          refine (HCC.out).mono ?_
          rintro e w5 ⟨rfl, rfl⟩
          go_wp2
          go_ret
          exact ⟨ret_int HM.out, HT3.out.bel⟩

/-- spec.fdTimes. -/
theorem fdTimes_any (q a b : Int) (w : World) (h : isSz q = true) (a0 : 0 ≤ a) (a1 : a < q) (b0 : 0 ≤ b) (b1 : b < q) :
    Calls Tryz.prog 178 #[.int .i64 q, .int .i64 a, .int .i64 b] w fun e w' => e = .returned (.int .i64 (mulF q a b)) ∧ Below w.heap.size w w' := by
  by_cases hk : plN q = 1
  · exact fdTimes_one q a b w h a0 a1 b0 b1 hk
  · exact fdTimes_many q a b w h a0 a1 b0 b1 hk
/-- The first i entries of f, zeros behind. -/
def part0 (f : Nat → Int) (i : Nat) : Nat → Int := fun j => if j < i then f j else 0
theorem part0_step (f : Nat → Int) (i : Nat) : upd (part0 f i) i (f i) = part0 f (i + 1) := by
  funext j
  unfold upd part0
  by_cases e : j = i
  · subst e; simp
  · rw [if_neg e]
    by_cases h : j < i
    · rw [if_pos h, if_pos (by omega)]
    · rw [if_neg h, if_neg (by omega)]
theorem part0_all (f : Nat → Int) (n : Nat) : fl (part0 f n) n = fl f n := fl_congr fun i hi => by simp [part0, hi]
theorem part0_zero (f : Nat → Int) (n : Nat) : List.replicate n 0 = fl (part0 f 0) n := by
  refine List.ext_getElem (by simp [fl]) fun j h1 h2 => ?_
  simp [fl, part0]
theorem Row.madeF {w : World} {B g n : Nat} (f : Nat → Int) (h : w.ownsRow B 3 1 (.slice (some ⟨g, 0, none⟩) n n) n (madeCells #[Value.int .i64 0] n).toList) : Row w B (.slice (some ⟨g, 0, none⟩) n n) (fl (part0 f 0) n) := by
  rw [← part0_zero]
  unfold Row
  rw [List.length_replicate, List.map_replicate]
  rw [toList_madeCells_one] at h
  exact h

end Go.Proofs.YtljijnanmpajaaaGreat
