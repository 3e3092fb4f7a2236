/- A bundle of texts: HQ HW HZ HR HS. -/
import Derived.Laws.CopyOwn
import Derived.Laws.Bits64b
import Derived.Test.YtljijnanmpajaaaGreatKH
import Derived.Test.YtljijnanmpajaaaGreatKI
import Derived.Test.YtljijnanmpajaaaGreatKJ
import Derived.Test.YtljijnanmpajaaaGreatKG
namespace Go.Proofs.YtljijnanmpajaaaGreat
open Go.RowKit
/-- The cells of one element, of the first n. -/
def el7 (q a : Int) : List Value := [.int .i64 q, .int .i64 (pr q), .int .i64 (pl q), .int .i64 (dg q a 0), .int .i64 (dg q a 1), .int .i64 (dg q a 2), .int .i64 (dg q a 3)]
def elc (q : Int) (f : Nat → Int) : Nat → List Value
  | 0 => []
  | n + 1 => elc q f n ++ el7 q (f n)
theorem elc_len (q : Int) (f : Nat → Int) (n : Nat) : (elc q f n).length = n * 7 := by
  induction n with
  | zero => rfl
  | succ n ih => simp only [elc, List.length_append, ih, el7, List.length_cons, List.length_nil]; omega
theorem elc_get (q : Int) (f : Nat → Int) (n j b : Nat) (hj : j < n) (hb : b < 7) : (elc q f n)[j * 7 + b]? = (el7 q (f j))[b]? := by
  induction n with
  | zero => omega
  | succ n ih =>
    simp only [elc]
    by_cases h : j < n
    · rw [List.getElem?_append_left (by rw [elc_len]; omega)]
      exact ih h
    · obtain rfl : j = n := by omega
      rw [List.getElem?_append_right (by rw [elc_len]; omega), elc_len]
      congr 1
      omega
theorem elc_one (q : Int) (f : Nat → Int) (n : Nat) : ∀ u ∈ elc q f n, u.oneCell' = true := by
  induction n with
  | zero => intro u hu; simp [elc] at hu
  | succ n ih =>
    intro u hu
    simp only [elc, List.mem_append] at hu
    rcases hu with hu | hu
    · exact ih u hu
    · simp only [el7, List.mem_cons, List.not_mem_nil, or_false] at hu
      rcases hu with rfl | rfl | rfl | rfl | rfl | rfl | rfl <;> rfl
theorem elc_cells {w : World} {g n : Nat} {q : Int} {f : Nat → Int} (h : Els w g q f n) : ∀ j u, (elc q f n)[j]? = some u → w.cell? ((⟨g, 0, none⟩ : Addr).add j) = some u := by
  intro j u hj
  have hl := (List.getElem?_eq_some_iff.1 hj).1
  rw [elc_len] at hl
  have e : j = (j / 7) * 7 + j % 7 := by omega
  have h7 : j % 7 < 7 := Nat.mod_lt _ (by omega)
  have hjn : j / 7 < n := by omega
  rw [add_off, Nat.zero_add]
  rw [e, elc_get q f n _ _ hjn h7] at hj
  rw [e]
  generalize j / 7 = a at *
  generalize j % 7 = b at *
  obtain ⟨c0, c1, c2, c3, c4, c5, c6⟩ := h a hjn
  have hb : b = 0 ∨ b = 1 ∨ b = 2 ∨ b = 3 ∨ b = 4 ∨ b = 5 ∨ b = 6 := by omega
  rcases hb with rfl | rfl | rfl | rfl | rfl | rfl | rfl
  · simp [el7] at hj; subst hj; exact c0
  · simp [el7] at hj; subst hj; exact c1
  · simp [el7] at hj; subst hj; exact c2
  · simp [el7] at hj; subst hj; exact c3
  · simp [el7] at hj; subst hj; exact c4
  · simp [el7] at hj; subst hj; exact c5
  · simp [el7] at hj; subst hj; exact c6
/-- A row of elements of the call's own. -/
theorem els_of_owns {w : World} {B n g cap : Nat} {q : Int} {f : Nat → Int} (h : w.ownsRow B 67 7 (.slice (some ⟨g, 0, none⟩) n cap) n (elc q f n)) : Els w g q f n := fun j hj => by
  have hc : ∀ b, b < 7 → w.cell? ⟨g, j * 7 + b, none⟩ = (el7 q (f j))[b]? := fun b hb => by
    rw [World.ownsRow.cellAt h (j * 7 + b) (by omega), elc_get q f n j b hj hb]
  exact ⟨hc 0 (by omega), hc 1 (by omega), hc 2 (by omega), hc 3 (by omega), hc 4 (by omega), hc 5 (by omega), hc 6 (by omega)⟩
set_option maxHeartbeats 1000000 in
/-- slices.Clone of elements. -/
theorem cloneE (q : Int) (v : Value) (f : Nat → Int) (n : Nat) (w : World) (hv : Se w v q f n) (hn : n ≤ 1000) :
    Calls Tryz.prog 182 #[v] w fun e w' => ∃ g cap, e = .returned (.slice (some ⟨g, 0, none⟩) n cap) ∧ n ≤ cap ∧ w.heap.size ≤ g ∧ Blk w' g cap ∧ Els w' g q f n ∧ Below w.heap.size w w' := by
  obtain ⟨i0, hi, iz0, iz1, iz2⟩ := info_parts Tryz.infoE
  obtain ⟨g, cp, rfl, hg, he⟩ := hv
  have q22 : ∀ (w : World) (a : Option Addr) (n c n' c' : Nat), (binOp .eql 58 (.slice a n c) (.slice none n' c')).run Tryz.prog w = .ok (.bool a.isNone) w := fun w a n c n' c' => Lib.run_eql_slice_nil w _ _ a n c n' c' Tryz.underlying58
  have H0 : Hid ((w.alloc (.cells #[] 67)).ownsRow w.heap.size 67 7 (.slice (some ⟨w.heap.size, 0, none⟩) 0 0) 0 []) := Lib.hid (World.ownsRow_lit (base := w.heap.size) (e := 67) (size := 7) w #[] 0 (Nat.le_refl _) (by unfold maxLen; omega) rfl)
  have HE := Lib.hid (elc_cells (he.below (w' := w.alloc (.cells #[] 67)) (B := w.heap.size) (by (repeat' (first | (with_reducible assumption) | (with_reducible exact Below.refl _ _) | (with_reducible refine below_drewN ?_ _) | (with_reducible refine Below.drew ?_) | (with_reducible refine Below.alloc ?_ ?_ _) | (with_reducible refine Below.setCell ?_ ?_ _) | (with_reducible refine Below.trans ?_ (Below.mono (by assumption) ?_)) | (with_reducible exact Nat.le_refl _) | (with_reducible assumption) | omega | (simp; omega) | (simp; done)))) hg))
  clear he
  go_enter Tryz.func182, Tryz.ntmps182
  go_wp2_with (at_builtin; refine wpList_append_own _ rfl _ _ 58 rfl w.heap.size 67 i0 (.agg #[.int .i64 0, .int .i64 0, .int .i64 0, .int .i64 0, .int .i64 0, .int .i64 0, .int .i64 0]) 7 56 Tryz.underlying58 hi iz0 iz1 iz2 rfl (by decide) _ _ _ rfl H0.out ⟨g, 0, none⟩ n cp (elc q f n) rfl (elc_len _ _ _) HE.out (elc_one _ _ _) (by unfold maxLen; omega) (by omega) (by simp) ?_)
  intro v1 w1 hown hgrow hnil
  have hown' : w1.ownsRow w.heap.size 67 7 v1 n (elc q f n) := by simpa using hown
  have HB1 : Hid (Below w.heap.size w w1) := Lib.hid (Below.grown (by (repeat' (first | (with_reducible assumption) | (with_reducible exact Below.refl _ _) | (with_reducible refine below_drewN ?_ _) | (with_reducible refine Below.drew ?_) | (with_reducible refine Below.alloc ?_ ?_ _) | (with_reducible refine Below.setCell ?_ ?_ _) | (with_reducible refine Below.trans ?_ (Below.mono (by assumption) ?_)) | (with_reducible exact Nat.le_refl _) | (with_reducible assumption) | omega | (simp; omega) | (simp; done)))) hgrow (by simp) (fun g hg => (World.ownsRow.lt H0.out g hg).1))
  have hform : ∃ g1 cap1, v1 = .slice (some ⟨g1, 0, none⟩) n cap1 ∧ n ≤ cap1 ∧ w.heap.size ≤ g1 ∧ Blk w1 g1 cap1 := by
    rcases hown'.2 with ⟨hx, _⟩ | ⟨g1, cap1, cur, hx, hB, hh, hc, _, hsz, _⟩
    · exact (hnil hx).elim
    · exact ⟨g1, cap1, hx, hc, hB, cur, hh, hsz⟩
  obtain ⟨g1, cap1, rfl, hc1, hB1, hblk⟩ := hform
  have HBK := Lib.hid hblk
  have HEL := Lib.hid (els_of_owns hown')
  clear hown hown' hgrow hnil hblk
  go_wp2
  go_ret
  exact ⟨_, _, rfl, hc1, hB1, HBK.out, HEL.out, HB1.out⟩
theorem run_copy_many {P : Program} (w : World) (dT sT ty elem : TypeId) (sz : Nat) (g off dLen dCap : Nat) (ad : Addr) (sLen sCap : Nat) (cur : Array Value) (t : TypeId) (cs : List Value)
    (hu : P.underlying dT = some (.slice elem)) (hs : (P.info? elem).map (·.size) = some sz) (hg : w.heap[g]? = some (.cells cur t (0, 0))) (hn : cs.length = Nat.min sLen dLen * sz)
    (hsrc : ∀ j v, cs[j]? = some v → w.cell? (ad.add j) = some v) (hfit : off + cs.length ≤ cur.size) (h1 : ∀ v ∈ cs, v.oneCell' = true) :
    (Builtin.copy_ #[dT, sT] ty #[.slice (some ⟨g, off, none⟩) dLen dCap, .slice (some ad) sLen sCap]).run P w = .ok (goInt (Nat.min sLen dLen)) (w.setRow g (cur.toList.take off ++ (cs ++ cur.toList.drop (off + cs.length))).toArray) := by
  have hl := run_loadCells_list (P := P) w ad cs hsrc
  have hst := run_storeCells_at P g off t cs 0 cur w hg (by simpa using hfit) h1
  cases hq : P.info? elem with
  | none => simp [hq] at hs
  | some i =>
    have hi : i.size = sz := by simpa [hq] using hs
    simp [Builtin.copy_, run_underlying hu, Builtin.lenOf, Builtin.firstCells, sizeOf, typeInfo, hq, hi, ← hn, hl, hst]
theorem run_copy_many_none {P : Program} (w : World) (dT sT ty elem : TypeId) (sz : Nat) (d a : Option Addr) (dLen dCap sLen sCap : Nat) (hu : P.underlying dT = some (.slice elem)) (hs : (P.info? elem).map (·.size) = some sz) (hn : Nat.min sLen dLen = 0) :
    (Builtin.copy_ #[dT, sT] ty #[.slice d dLen dCap, .slice a sLen sCap]).run P w = .ok (goInt 0) w := by
  cases hq : P.info? elem with
  | none => simp [hq] at hs
  | some i =>
    have hl : ∀ (x : Addr), (loadCells x 0).run P w = .ok #[] w := fun x => by simpa using run_loadCells_list (P := P) w x [] (by simp)
    cases d <;> cases a <;> simp [Builtin.copy_, run_underlying hu, Builtin.lenOf, Builtin.firstCells, sizeOf, typeInfo, hq, hn, storeCells, hl]
theorem wpList_copy_many {P : Program} {w : World} {ops : Array Oper} {rest : List Oper} {o : Oper} {a : Act} {Q : Exit → Act → World → Prop} (hgd : o.guard = none) (d s : Operand) (dT sT : TypeId)
    (ho : o.op = .call { callee := .builtin .copy, args := #[d, s], argTypes := #[dT, sT] }) (elem : TypeId) (sz : Nat) (hu : P.underlying dT = some (.slice elem)) (hsz : (P.info? elem).map (·.size) = some sz)
    (dp sp : Option Addr) (dLen dCap sLen sCap : Nat) (hd : a.eval d = .slice dp dLen dCap) (hs : a.eval s = .slice sp sLen sCap)
    (g off : Nat) (cur : List Value) (t : TypeId) (hg : w.heap[g]? = some (.cells cur.toArray t (0, 0))) (cs : List Value) (hn : cs.length = Nat.min sLen dLen * sz)
    (hpos : 0 < Nat.min sLen dLen → dp = some ⟨g, off, none⟩ ∧ ∃ ad, sp = some ad ∧ ∀ j v, cs[j]? = some v → w.cell? (ad.add j) = some v)
    (hfit : off + cs.length ≤ cur.length) (h1 : ∀ v ∈ cs, v.oneCell' = true) (B : Nat) (w0 : World) (hb : Below B w0 w) (hBg : B ≤ g)
    (h : ∀ w', Hid (w'.heap[g]? = some (.cells (splice cur off cs).toArray t (0, 0))) → Below B w0 w' → wpList P ops Q rest (a.put o.dst (goInt (Nat.min sLen dLen))) w') :
    wpList P ops Q (o :: rest) a w := by
  by_cases h0 : Nat.min sLen dLen = 0
  · have hc : cs.length = 0 := by rw [hn, h0, Nat.zero_mul]
    obtain rfl : cs = [] := List.eq_nil_of_length_eq_zero hc
    refine wpList_plain hgd fun K hK => ?_
    have hrun := run_copy_many_none (P := P) w dT sT o.type elem sz dp sp dLen dCap sLen sCap hu hsz h0
    unfold Oper.wp
    simp [execOp, ho, resolve, invoke, builtin, hd, hs, hrun, Result.andThen]
    rw [h0] at h
    exact hK _ _ (h w (show _ = _ by simpa [splice] using hg) hb)
  · obtain ⟨rfl, ad, rfl, hsrc⟩ := hpos (by omega)
    refine wpList_plain hgd fun K hK => ?_
    have hrun := run_copy_many (P := P) w dT sT o.type elem sz g off dLen dCap ad sLen sCap cur.toArray t cs hu hsz hg hn hsrc (by simpa using hfit) h1
    unfold Oper.wp
    simp [execOp, ho, resolve, invoke, builtin, hd, hs, hrun, Result.andThen]
    exact hK _ _ (h _ (show _ = _ by simpa [splice] using setRow_heap w g _ _ t _ hg) (below_setRow hb hBg _))
/-- The same as a step of a region that draws its order. -/
theorem step_copy_many {P : Program} {ops : Array Oper} {o : Oper} {a : Act} {w : World} {K : Act → World → Prop} {Q : Exit → Act → World → Prop} {E : Prop} (hgd : o.guard = none) (d s : Operand) (dT sT : TypeId)
    (ho : o.op = .call { callee := .builtin .copy, args := #[d, s], argTypes := #[dT, sT] }) (elem : TypeId) (sz : Nat) (hu : P.underlying dT = some (.slice elem)) (hsz : (P.info? elem).map (·.size) = some sz)
    (sLen sCap dLen dCap g off : Nat) (ad : Addr) (hd : a.eval d = .slice (some ⟨g, off, none⟩) dLen dCap) (hs : a.eval s = .slice (some ad) sLen sCap)
    (cur : List Value) (t : TypeId) (hg : w.heap[g]? = some (.cells cur.toArray t (0, 0))) (cs : List Value) (hn : cs.length = Nat.min sLen dLen * sz)
    (hsrc : ∀ j v, cs[j]? = some v → w.cell? (ad.add j) = some v) (hfit : off + cs.length ≤ cur.length) (h1 : ∀ v ∈ cs, v.oneCell' = true) (B : Nat) (w0 : World) (hb : Below B w0 w) (hBg : B ≤ g)
    (h : ∀ w', Hid (w'.heap[g]? = some (.cells (splice cur off cs).toArray t (0, 0))) → Below B w0 w' → K (a.put o.dst (goInt (Nat.min sLen dLen))) w') :
    if Region.wanted o (yielded ops a.tmps) = true then Oper.wp P o a w K Q else E := by
  have hw : Region.wanted o (yielded ops a.tmps) = true := by simp [Region.wanted, hgd]
  rw [if_pos hw]
  have hrun := run_copy_many (P := P) w dT sT o.type elem sz g off dLen dCap ad sLen sCap cur.toArray t cs hu hsz hg hn hsrc (by simpa using hfit) h1
  unfold Oper.wp
  simp [execOp, ho, resolve, invoke, builtin, hd, hs, hrun, Result.andThen]
  exact h _ (show _ = _ by simpa [splice] using setRow_heap w g _ _ t _ hg) (below_setRow hb hBg _)
theorem mask_small (n : Nat) (h : n < 4294967296) : bits .and .u64 (n : Int) 4294967295 = (n : Int) := by
  have h1 := bits_and_u64_nat n 4294967295 (by omega) (by omega)
  have e : n &&& 4294967295 = n % 4294967296 := Nat.and_two_pow_sub_one_eq_mod n 32
  rw [e, Nat.mod_eq_of_lt h] at h1
  exact h1
theorem mul64_one (n : Nat) (hn : n ≤ 1000) (w : World) : Calls Tryz.prog 218 #[.int .u64 1, .int .u64 n] w fun e w' => e = .returned (.tuple #[.int .u64 0, .int .u64 n]) ∧ w' = w := by
  have hm := mask_small n (by omega)
  have h1 : bits .and .u64 1 4294967295 = 1 := mask_small 1 (by omega)
  have h2 : (n : Int) / 4294967296 = 0 := by omega
  have h3 : (n : Int) % 18446744073709551616 = n := by omega
  have h4 : bits .and .u64 0 4294967295 = 0 := mask_small 0 (by omega)
  go_enter Tryz.func218, Tryz.ntmps218
  go_wp2
  go_ret2
  exact ⟨rfl, rfl⟩
theorem mul_one (n : Nat) (hn : n ≤ 1000) (w : World) : Calls Tryz.prog 214 #[.int .u64 1, .int .u64 n] w fun e w' => e = .returned (.tuple #[.int .u64 0, .int .u64 n]) ∧ w' = w := by
  have HM := Lib.hid (mul64_one n hn)
  go_enter Tryz.func214, Tryz.ntmps214
  go_wp2_with fail
  refine (HM.out _).mono ?_
  rintro e w1 ⟨rfl, rfl⟩
  go_wp2
  go_ret2
  exact ⟨rfl, rfl⟩
theorem elc_add (q x : Int) (r c : Nat) : elc q (fun _ => x) r ++ elc q (fun _ => x) c = elc q (fun _ => x) (r + c) := by
  induction c with
  | zero => simp [elc]
  | succ c ih => rw [← Nat.add_assoc]; simp only [elc]; rw [← List.append_assoc, ih]
theorem elc_pre (q x : Int) (r c : Nat) (h : c ≤ r) (j : Nat) (v : Value) (hj : (elc q (fun _ => x) c)[j]? = some v) : (elc q (fun _ => x) r)[j]? = some v := by
  obtain ⟨d, rfl⟩ : ∃ d, r = c + d := ⟨r - c, by omega⟩
  rw [← elc_add, List.getElem?_append_left (List.getElem?_eq_some_iff.1 hj).1, hj]
/-- A block of N elements whose first r are x. -/
def ZR (w : World) (g N : Nat) (q x : Int) (r : Nat) : Prop := ∃ cur : List Value, w.heap[g]? = some (.cells cur.toArray 67 (0, 0)) ∧ cur.length = N * 7 ∧ cur.take (r * 7) = elc q (fun _ => x) r
theorem ZR.next {w' : World} {g N : Nat} {q x : Int} {r c : Nat} {cur : List Value} (hl : cur.length = N * 7) (ht : cur.take (r * 7) = elc q (fun _ => x) r) (hc : r + c ≤ N) (h : w'.heap[g]? = some (.cells (splice cur (r * 7) (elc q (fun _ => x) c)).toArray 67 (0, 0))) : ZR w' g N q x (r + c) := by
  refine ⟨_, h, ?_, ?_⟩
  · rw [length_splice _ _ _ (by rw [elc_len]; omega), hl]
  · unfold splice
    rw [ht, ← List.append_assoc, elc_add, List.take_append_of_le_length (by rw [elc_len]; omega), List.take_of_length_le (by rw [elc_len]; omega)]
theorem ZR.cells {w : World} {g : Nat} {q x : Int} {r c : Nat} {cur : List Value} (h : w.heap[g]? = some (.cells cur.toArray 67 (0, 0))) (ht : cur.take (r * 7) = elc q (fun _ => x) r) (hc : c ≤ r) (j : Nat) (v : Value) (hj : (elc q (fun _ => x) c)[j]? = some v) : w.cell? ((⟨g, 0, none⟩ : Addr).add j) = some v := by
  have h1 := elc_pre q x r c hc j v hj
  rw [← ht] at h1
  have hl : j < r * 7 := by have := (List.getElem?_eq_some_iff.1 h1).1; rw [List.length_take] at this; omega
  rw [List.getElem?_take, if_pos hl] at h1
  rw [add_off, Nat.zero_add, cell_of_row w g j _ _ (0, 0) h]
  simpa using h1
theorem ZR.all {w : World} {g N : Nat} {q x : Int} (h : ZR w g N q x N) : Blk w g N ∧ Els w g q (fun _ => x) N := by
  obtain ⟨cur, hh, hl, ht⟩ := h
  refine ⟨⟨_, hh, by simpa using hl⟩, fun j hj => ?_⟩
  have hc : ∀ b, b < 7 → w.cell? ⟨g, j * 7 + b, none⟩ = (el7 q x)[b]? := fun b hb => by
    rw [cell_of_row w g _ _ _ (0, 0) hh]
    rw [List.take_of_length_le (by omega)] at ht
    rw [ht, ← elc_get q (fun _ => x) N j b hj hb]
    simp
  exact ⟨hc 0 (by omega), hc 1 (by omega), hc 2 (by omega), hc 3 (by omega), hc 4 (by omega), hc 5 (by omega), hc 6 (by omega)⟩
theorem els_one {w : World} {b : Nat} {q x : Int} (h : Els w b q (fun _ => x) 1) (j : Nat) (v : Value) (hj : (elc q (fun _ => x) 1)[j]? = some v) : w.cell? ((⟨b, 0, none⟩ : Addr).add j) = some v := elc_cells h j v hj
theorem made_list {w : World} {base g N : Nat} {xs : List Value} (h : w.ownsRow base 67 7 (.slice (some ⟨g, 0, none⟩) N N) N xs) : ∃ cur : List Value, w.heap[g]? = some (.cells cur.toArray 67 (0, 0)) ∧ cur.length = N * 7 := by
  rcases h.2 with ⟨hx, _⟩ | ⟨g', cap, cur, hx, _, hh, _, _, hsz, _⟩
  · simp at hx
  · simp at hx
    obtain ⟨rfl, rfl⟩ := hx
    exact ⟨cur.toList, by simpa using hh, by simpa using hsz⟩
set_option maxRecDepth 100000 in
set_option maxHeartbeats 2000000 in
/-- slices.Repeat of one element. -/
theorem repeatE (q x : Int) (b N cp : Nat) (w : World) (hb : b < w.heap.size) (he : Els w b q (fun _ => x) 1) (hN : N ≤ 1000) :
    Calls Tryz.prog 202 #[.slice (some ⟨b, 0, none⟩) 1 cp, .int .i64 N] w fun e w' => ∃ g, e = .returned (.slice (some ⟨g, 0, none⟩) N N) ∧ w.heap.size ≤ g ∧ Blk w' g N ∧ Els w' g q (fun _ => x) N ∧ Below w.heap.size w w' := by
  obtain ⟨i0, hi, iz0, iz1, iz2⟩ := info_parts Tryz.infoE
  have HM := Lib.hid (mul_one N hN)
  have HEL := Lib.hid (fun w' (hbw : Below w.heap.size w w') => els_one (he.below hbw hb))
  have hN0 : ¬ (N : Int) < 0 := by omega
  have hw1 : IntKind.u64.wrap (N : Int) = (N : Int) := by rw [IntKind.wrap_u64]; omega
  have hw2 : ¬ (9223372036854775807 : Int) < (N : Int) := by omega
  have hsz : (Tryz.prog.info? 67).map (fun i => i.size) = some 7 := by rw [hi]; simp [iz1]
  clear he
  go_enter Tryz.func202, Tryz.ntmps202
  go_wp2_with fail
  refine (HM.out _).mono ?_
  rintro e w0 ⟨rfl, rfl⟩
  go_wp2_with (at_make; go_must (refine wpList_make_full _ rfl _ _ 58 rfl w0.heap.size 67 i0 (.agg #[.int .i64 0, .int .i64 0, .int .i64 0, .int .i64 0, .int .i64 0, .int .i64 0, .int .i64 0]) 7 Tryz.underlying58 hi iz0 iz1 .i64 .i64 _ _ N rfl rfl rfl rfl ?c3 ?c4 ?c5 ?_))
  case c3 => rw [iz2]; omega
  case c4 => unfold maxLen; omega
  case c5 => simp
  intro w1 hown hgrow
  obtain ⟨cur, hcur, hcl⟩ := made_list hown
  have HCUR := Lib.hid hcur
  have HB1 := Lib.hid ((Below.refl w0.heap.size w0).grown hgrow (Nat.le_refl _) (fun k hk => by cases hk))
  clear hown hgrow hcur
  by_cases h0 : N = 0
  · subst h0
    have hm0 : Nat.min 1 0 = 0 := rfl
    go_wp2_with (with_reducible refine wpList_copy_many (sz := 7) rfl _ _ 58 58 rfl 67 Tryz.underlying58 hsz _ _ _ _ _ _ rfl rfl w0.heap.size 0 cur 67 HCUR.out [] ?d1 ?d2 ?d3 ?d4 w0.heap.size w0 HB1.out (Nat.le_refl _) ?_)
    all_goals (try exact rfl)
    all_goals (try (intro u hu; cases hu; done))
    all_goals (try (simp; done))
    intro w2 HG2 hb2
    have HB2 := Lib.hid hb2; clear hb2
    have hz : ZR w2 w0.heap.size 0 q x 0 := by
      have := ZR.next (q := q) (x := x) (r := 0) (c := 0) hcl (by simp [elc]) (by omega) (by simpa [elc] using HG2.out)
      simpa using this
    obtain ⟨hk, he⟩ := hz.all
    have HK := Lib.hid hk
    have HE := Lib.hid he
    clear hk he hz HG2
    go_wp2_with fail
    (refine wp_loop_rounds 1 ?_; repeat any_goals (rw [rounds_succ]; go_wp2))
    go_wp2
    go_ret
    exact ⟨_, rfl, Nat.le_refl _, HK.out, HE.out, HB2.out⟩
  · have hm1 : Nat.min 1 N = 1 := Nat.min_eq_left (by omega)
    have HX := Lib.hid (HEL.out _ HB1.out)
    go_wp2_with (with_reducible refine wpList_copy_many (sz := 7) rfl _ _ 58 58 rfl 67 Tryz.underlying58 hsz _ _ _ _ _ _ rfl rfl w0.heap.size 0 cur 67 HCUR.out (elc q (fun _ => x) 1) ?e1 ?e2 ?e3 (elc_one _ _ _) w0.heap.size w0 HB1.out (Nat.le_refl _) ?_)
    case e1 => rw [elc_len, hm1]
    case e2 => intro j v hj; have := HX.out j v hj; rw [add_off, Nat.zero_add] at this; exact this
    case e3 => rw [elc_len]; omega
    intro w2 HG2 hb2
    have hzr : ZR w2 w0.heap.size N q x 1 := by
      have := ZR.next (q := q) (x := x) (r := 0) (c := 1) hcl (by simp [elc]) (by omega) (by simpa using HG2.out)
      simpa using this
    have HZR := Lib.hid hzr
    have HB2 := Lib.hid hb2
    clear hzr hb2 HG2 HX
    go_wp2_with fail
    go_loopw [8] (fun vi wr => ∃ r : Nat, 1 ≤ r ∧ r ≤ N ∧ vi = .int .i64 r ∧ ZR wr w0.heap.size N q x r ∧ Below w0.heap.size w0 wr) (fun vi _ => N - (intOf vi).toNat)
    case atStart => exact ⟨1, Nat.le_refl _, by omega, rfl, HZR.out, HB2.out⟩
    case round =>
      obtain ⟨r, hr1, hrN, rfl, hz, hb⟩ := hrel
      by_cases hlt : r < N
      · obtain ⟨cu, hcu, hcul, hct⟩ := hz
        have HCU := Lib.hid hcu; clear hcu
        have HBr := Lib.hid hb; clear hb
        have hne : ¬ r = N := by omega
        have hne2 : ¬ N = r := by omega
        have hr7 : ¬ r * 7 = 0 := by omega
        have HS := Lib.hid (fun (c : Nat) (hc : c ≤ r) (j : Nat) (v : Value) (hj : (elc q (fun _ => x) c)[j]? = some v) => ZR.cells HCU.out hct hc j v hj)
        obtain ⟨c, hc⟩ : ∃ c, c = Nat.min r (N - r) := ⟨_, rfl⟩
        have hc1 : c ≤ r := by rw [hc]; exact Nat.min_le_left _ _
        have hc2 : c ≤ N - r := by rw [hc]; exact Nat.min_le_right _ _
        have hc3 : 1 ≤ c := by rw [hc]; exact Nat.le_min.2 ⟨hr1, by omega⟩
        have HC := Lib.hid hc; clear hc
        have hrc : r + c ≤ N := by omega
        have hwr : IntKind.i64.wrap ((r : Int) + (c : Int)) = (r : Int) + (c : Int) := by rw [IntKind.wrap_i64]; omega
        go_wp2_with fail
        go_region_law? (refine step_copy_many rfl (.tmp 41) (.tmp 44) 58 58 rfl 67 7 Tryz.underlying58 hsz r N (N - r) (N - r) w0.heap.size (r * 7) ⟨w0.heap.size, 0, none⟩ (by simp [Act.eval, Act.put]) (by simp [Act.eval, Act.put]) cu 67 HCU.out (elc q (fun _ => x) c) (by rw [elc_len, HC.out]) (fun j v hj => HS.out c hc1 j v hj) (by rw [elc_len, hcul]; omega) (elc_one _ _ _) w0.heap.size w0 (by have hb := HBr.out; (repeat' (first | (with_reducible assumption) | (with_reducible exact Below.refl _ _) | (with_reducible refine below_drewN ?_ _) | (with_reducible refine Below.drew ?_) | (with_reducible refine Below.alloc ?_ ?_ _) | (with_reducible refine Below.setCell ?_ ?_ _) | (with_reducible refine Below.trans ?_ (Below.mono (by assumption) ?_)) | (with_reducible exact Nat.le_refl _) | (with_reducible assumption) | omega | (simp; omega) | (simp; done)))) (Nat.le_refl _) ?_; intro w3 HG3 hb3; have HB3 := Lib.hid hb3; clear hb3; rw [← HC.out])
        all_goals
          go_simp
          go_roundw
          case rel => exact ⟨.int .i64 ((r : Int) + (c : Int)), _, _, _, _, _, _, _, _, _, _, _, _, _, ⟨r + c, by omega, by omega, by simp, ZR.next hcul hct (by omega) HG3.out, HB3.out⟩, rfl⟩
          case measure => (simp [intOf]; omega)
      · obtain rfl : N = r := by omega
        obtain ⟨hk, he⟩ := hz.all
        have HK := Lib.hid hk
        have HE := Lib.hid he
        clear hk he hz
        go_wp2
        go_ret
        exact ⟨_, rfl, Nat.le_refl _, HK.out, HE.out, hb⟩
theorem drew_heap' (w : World) (k : Nat) : w.drew.heap[k]? = w.heap[k]? := rfl
abbrev ffblk (q : Int) : Obj := .cells #[.int .i64 q, .int .i64 (pr q), .int .i64 (pl q)] 57
theorem cells3' {w : World} {b : Nat} {x0 x1 x2 : Value} (h : w.heap[b]? = some (.cells #[x0, x1, x2] 57 (0, 0))) :
    w.cell? ⟨b, 0, none⟩ = some x0 ∧ w.cell? ⟨b, 1, none⟩ = some x1 ∧ w.cell? ⟨b, 2, none⟩ = some x2 ∧ (∀ o, w.frozen? ⟨b, o, none⟩ = false) ∧ b < w.heap.size := by
  refine ⟨?_, ?_, ?_, fun o => frozen_of_row w b o _ _ h, (Array.getElem?_eq_some_iff.1 h).1⟩ <;> rw [cell_of_row w b _ _ _ (0, 0) h] <;> rfl
theorem Els.put {w : World} {g n cap i : Nat} {q : Int} {f : Nat → Int} (x : Int) (hk : Blk w g cap) (hi : i < n) (hn : n ≤ cap) (he : Els w g q f n) : Els (put7i w g i q x) g q (upd f i x) n ∧ Blk (put7i w g i q x) g cap := by
  obtain ⟨cur, hc, hs⟩ := hk
  have hh := put7i_heap w g i q x cur hc
  refine ⟨fun j hj => ?_, ⟨_, hh, by rw [arr7_size]; exact hs⟩⟩
  have hin := arr7_in cur i q x (by omega)
  simp only [cell_of_row _ g _ _ _ (0, 0) hh]
  by_cases e : j = i
  · subst e
    rw [upd_at]
    exact hin
  · have := he j hj
    simp only [cell_of_row _ g _ _ _ (0, 0) hc] at this
    rw [upd_ne _ _ _ _ e, arr7_out _ _ _ _ _ (by omega), arr7_out _ _ _ _ _ (by omega), arr7_out _ _ _ _ _ (by omega), arr7_out _ _ _ _ _ (by omega), arr7_out _ _ _ _ _ (by omega), arr7_out _ _ _ _ _ (by omega), arr7_out _ _ _ _ _ (by omega)]
    exact this
/-- The memory of reduced. -/
structure TR (w0 wr : World) (q : Int) (f : Nat → Int) (n cap g : Nat) : Prop where
  hf : wr.heap[w0.heap.size]? = some (ffblk q)
  hr : wr.heap[w0.heap.size + 1]? = some pzblk
  hk : Blk wr g cap
  he : Els wr g q f n
  bel : Below w0.heap.size w0 wr
  lt : w0.heap.size + 1 < g
theorem TR.below {w0 wr w' : World} {q : Int} {f : Nat → Int} {n cap g B : Nat} (h : TR w0 wr q f n cap g) (hb : Below B wr w') (hB : wr.heap.size ≤ B) : TR w0 w' q f n cap g := by
  have hg := h.hk.lt
  have hl := h.lt
  have hs := h.bel.size
  exact ⟨(hb.block _ (by omega)).trans h.hf, (hb.block _ (by omega)).trans h.hr, h.hk.below hb (by omega), h.he.below hb (by omega), h.bel.trans (hb.mono (by omega)), hl⟩
theorem TR.step {w0 wr : World} {q : Int} {f : Nat → Int} {n cap g i : Nat} (h : TR w0 wr q f n cap g) (hi : i < n) (hn : n ≤ cap) (x : Int) : TR w0 (put7i wr g i q x) q (upd f i x) n cap g := by
  have hl := h.lt
  obtain ⟨he, hk⟩ := Els.put x h.hk hi hn h.he
  exact ⟨(put7i_other _ _ _ _ _ _ (by omega)).trans h.hf, (put7i_other _ _ _ _ _ _ (by omega)).trans h.hr, hk, he, put7i_below h.bel _ (by omega) _ _ _, hl⟩
theorem sn_stop' {f : Nat → Int} {k : Nat} (h : f k ≠ 0) : sn f (k + 1) = k + 1 := by simp [sn, h]
theorem sn_go' {f : Nat → Int} {k : Nat} (h : f k = 0) : sn f (k + 1) = sn f k := by simp [sn, h]
set_option maxHeartbeats 4000000 in
/-- impl.field.reduced. -/
theorem reducedE (m : Nat) (v : Value) (c : Nat → Int) (n : Nat) (w : World) (h : isSz (m : Int) = true) (hv : Se w v (m : Int) c n) (hc : ∀ i, El (m : Int) (c i)) (hn : n ≤ 1000) :
    Calls Tryz.prog 109 #[fdE (m : Int), v] w fun e w' => ∃ g cap, e = .returned (polyE (m : Int) (.slice (some ⟨g, 0, none⟩) (redn m c n) cap)) ∧ g < w'.heap.size ∧ Els w' g (m : Int) (redR m c n) (redn m c n) ∧ Below w.heap.size w w' := by
  have hq := isSz_le (m : Int) h
  obtain ⟨hlast, hsn⟩ := redT_last m c h hc n
  have HLAST := Lib.hid hlast; clear hlast
  have HSN := Lib.hid hsn; clear hsn
  have HCL := Lib.hid (fun w' (hb : Below w.heap.size w w') => cloneE (m : Int) v c n w' (hv.below hb (Nat.le_refl _)) hn)
  have HEL := Lib.hid (redT_el m c h hc n)
  have HA := Lib.hid (fun (s j k : Nat) w => plusE (m : Int) (redT m c n s j) (redT m c n s k) w h (redT_el m c h hc n s j).1 (redT_el m c h hc n s j).2 (redT_el m c h hc n s k).1 (redT_el m c h hc n s k).2)
  have HZ := Lib.hid (fun (s j : Nat) w => isZeroE (m : Int) (redT m c n s j) w h (redT_el m c h hc n s j).1 (redT_el m c h hc n s j).2)
  obtain ⟨g0, cp0, rfl, hg0, he0⟩ := hv
  clear h hc he0
  go_enter Tryz.func109, Tryz.ntmps109
  go_wp2_with fail
  refine (HCL.out _ (by (repeat' (first | (with_reducible assumption) | (with_reducible exact Below.refl _ _) | (with_reducible refine below_drewN ?_ _) | (with_reducible refine Below.drew ?_) | (with_reducible refine Below.alloc ?_ ?_ _) | (with_reducible refine Below.setCell ?_ ?_ _) | (with_reducible refine Below.trans ?_ (Below.mono (by assumption) ?_)) | (with_reducible exact Nat.le_refl _) | (with_reducible assumption) | omega | (simp; omega) | (simp; done))))).mono ?_
  rintro e w1 ⟨g, cap, rfl, hcap, hg, hk1, he1, hb1⟩
  simp at hg
  have htr : TR w w1 (m : Int) (redT m c n 0) n cap g := by
    refine ⟨?_, ?_, hk1, he1, by (repeat' (first | (with_reducible assumption) | (with_reducible exact Below.refl _ _) | (with_reducible refine below_drewN ?_ _) | (with_reducible refine Below.drew ?_) | (with_reducible refine Below.alloc ?_ ?_ _) | (with_reducible refine Below.setCell ?_ ?_ _) | (with_reducible refine Below.trans ?_ (Below.mono (by assumption) ?_)) | (with_reducible exact Nat.le_refl _) | (with_reducible assumption) | omega | (simp; omega) | (simp; done))), by omega⟩
    · rw [hb1.block _ (by simp; omega), Below.heap_alloc _ _ _ (by simp), heap_alloc_new]
    · rw [hb1.block _ (by simp), show w.heap.size + 1 = (w.alloc (ffblk (m : Int))).heap.size from by simp, heap_alloc_new]
  have HTR := Lib.hid htr
  clear htr hk1 he1 hb1
  go_wp2_with fail
  go_loopw [5] (fun vi wr => ∃ s : Nat, (s + m ≤ n ∨ s = 0) ∧ vi = .int .i64 ((n : Int) - 1 - (s : Int)) ∧ TR w wr (m : Int) (redT m c n s) n cap g) (fun vi _ => (intOf vi + 1).toNat)
  case atStart => exact ⟨0, .inr rfl, by simp, HTR.out⟩
  case round =>
    obtain ⟨s, hs, rfl, ht⟩ := hrel
    obtain ⟨f0, f1, f2, ff, fl0⟩ := cells3' ht.hf
    have hgl := ht.hk.lt
    by_cases hlt : s + m + 1 ≤ n
    · have hz : ((n : Int) - 1 - (s : Int)) = ((n - 1 - s : Nat) : Int) := by omega
      have hz2 : (((n - 1 - s : Nat) : Int) - (m : Int) + 1) = ((n - 1 - s - m + 1 : Nat) : Int) := by omega
      obtain ⟨c0, c1, c2, c3, c4, c5, c6⟩ := ht.he (n - 1 - s) (by omega)
      obtain ⟨d0, d1, d2, d3, d4, d5, d6⟩ := ht.he (n - 1 - s - m + 1) (by omega)
      have fr := ht.hk.free
      have HT := Lib.hid ht; clear ht
      have HA' := Lib.hid (HA.out s (n - 1 - s - m + 1) (n - 1 - s))
      have HUP : Hid (redT m c n (s + 1) = upd (redT m c n s) (n - 1 - s - m + 1) (addF m (redT m c n s (n - 1 - s - m + 1)) (redT m c n s (n - 1 - s)))) := Lib.hid rfl
      have hlo : n - 1 - s - m + 1 < n := by omega
      have hhi : n - 1 - s < n := by omega
      have hge : (m : Int) ≤ ((n - 1 - s : Nat) : Int) := by omega
      rw [hz]
      generalize hkk : n - 1 - s = k at *
      generalize hll : k - m + 1 = lo at *
      have HKK := Lib.hid hkk; clear hkk
      have HLL := Lib.hid hll; clear hll hz
      generalize redT m c n s lo = y at *
      generalize redT m c n s k = x at *
      go_wp2_with fail
      go_region_with (go_at_call 174; refine (HA'.out _).mono ?_; rintro e w2 ⟨rfl, hb2⟩; obtain ⟨hc2, hf2⟩ := bcell hb2; (try simp only [World.size_drew] at hc2 hf2); have hz2 := hb2.size; (try simp at hz2); have HB2 := Lib.hid hb2; clear hb2; have l2 : g < w2.heap.size := (by omega))
      all_goals
        go_wp2
        go_roundw
        case rel =>
          have hb2 := HB2.out
          have hkk := HKK.out
          have t2 := (HT.out.below (B := wr.heap.size) (w' := w2) (by (repeat' (first | (with_reducible assumption) | (with_reducible exact Below.refl _ _) | (with_reducible refine below_drewN ?_ _) | (with_reducible refine Below.drew ?_) | (with_reducible refine Below.alloc ?_ ?_ _) | (with_reducible refine Below.setCell ?_ ?_ _) | (with_reducible refine Below.trans ?_ (Below.mono (by assumption) ?_)) | (with_reducible exact Nat.le_refl _) | (with_reducible assumption) | omega | (simp; omega) | (simp; done)))) (Nat.le_refl _)).step hlo hcap (addF (m : Int) y x)
          refine ⟨s + 1, by omega, by rw [← hkk]; exact congrArg (Value.int .i64) (by omega), ?_⟩
          rw [HUP.out]
          exact t2
        case measure => (simp [intOf]; try omega)
    · have hs2 : s = n - m := by omega
      subst hs2
      have hge : ¬ (m : Int) ≤ (n : Int) - 1 - ((n - m : Nat) : Int) := by omega
      have HT := Lib.hid ht; clear ht
      have hmin : ∀ (a b : Nat), a ≤ b → min a b = a := fun a b h => Nat.min_eq_left h
      generalize hg : redT m c n (n - m) = T at *
      have HGT := Lib.hid hg; clear hg
      by_cases hnm : n ≤ m
      · have hnm' : ¬ (m : Int) < (n : Int) := by omega
        have HRN : Hid (sn T n = redn m c n) := Lib.hid (by have e1 := HSN.out; rw [show min n m = n by omega] at e1; exact e1)
        have HTE : Hid (∀ j, j < n → T j = redR m c n j) := Lib.hid fun j hj => HLAST.out j (by omega)
        have HZT : Hid (∀ j w, Calls Tryz.prog 132 #[elE (m : Int) (T j)] w fun e w' => e = .returned (.bool (decide (T j = 0))) ∧ Below w.heap.size w w') := Lib.hid (by have e1 := HZ.out (n - m); rw [HGT.out] at e1; exact e1)
        have hKn : n ≤ n := by omega
        go_wp2_with fail
        go_loopw [7] (fun vk ws => ∃ k : Nat, k ≤ n ∧ vk = .int .i64 k ∧ sn T k = sn T n ∧ TR w ws (m : Int) T n cap g) (fun vk _ => (intOf vk).toNat)
        case atStart => exact ⟨n, Nat.le_refl _, rfl, rfl, HT.out⟩
        case round =>
          obtain ⟨k, hk, rfl, hsk, ht⟩ := hrel
          have hFIN : sn T n = k → Hid (k = redn m c n) := fun e => Lib.hid (by rw [← HRN.out, e])
          obtain ⟨f0, f1, f2, ff, fl0⟩ := cells3' ht.hf
          obtain ⟨r0, r1, r2, r3, rf, rl0⟩ := cells4 ht.hr
          have hgl := ht.hk.lt
          by_cases h0 : k = 0
          · subst h0
            have HFN := hFIN hsk.symm
            clear hFIN hsk
            have HTT := Lib.hid ht; clear ht
            have hb0 := HTT.out.bel
            go_wp2_with fail
            go_region
            all_goals
              go_wp2_with fail
              refine bodyPost_ret (v := polyE (m : Int) (.slice (some ⟨g, 0, none⟩) 0 cap)) (by simp [results, Tryz.results109, go_sem, r0, r1, r2, r3]) rfl ⟨g, cap, by rw [← HFN.out], by simp; omega, ?_, ?_⟩
              · rw [← HFN.out]
                exact fun i hi => by omega
              · (repeat' (first | (with_reducible assumption) | (with_reducible exact Below.refl _ _) | (with_reducible refine below_drewN ?_ _) | (with_reducible refine Below.drew ?_) | (with_reducible refine Below.alloc ?_ ?_ _) | (with_reducible refine Below.setCell ?_ ?_ _) | (with_reducible refine Below.trans ?_ (Below.mono (by assumption) ?_)) | (with_reducible exact Nat.le_refl _) | (with_reducible assumption) | omega | (simp; omega) | (simp; done)))
          · obtain ⟨j, rfl⟩ : ∃ j, k = j + 1 := ⟨k - 1, by omega⟩
            obtain ⟨c0, c1, c2, c3, c4, c5, c6⟩ := ht.he j (by omega)
            have hz : (((j + 1 : Nat) : Int) - 1) = (j : Int) := by omega
            have hpos : (0 : Int) < ((j + 1 : Nat) : Int) := by omega
            have hjn : j < n := by omega
            have HZJ := Lib.hid (HZT.out j)
            by_cases hu : T j = 0
            · have HS2 : Hid (sn T j = sn T n) := Lib.hid (by rw [← hsk, sn_go' hu])
              have hd : decide (T j = 0) = true := decide_eq_true hu
              have HTT := Lib.hid ht; clear ht hFIN hsk
              rw [hd] at HZJ
              clear hu hd
              generalize T j = u at *
              go_wp2_with fail
              refine (HZJ.out _).mono ?_
              rintro e w2 ⟨rfl, hb2⟩
              have HT2 := Lib.hid (HTT.out.below hb2 (Nat.le_refl _)); clear hb2
              go_wp2
              go_roundw
              case rel => exact ⟨j, by omega, by go_num, HS2.out, HT2.out⟩
              case measure => (simp [intOf]; try omega)
            · have hd : decide (T j = 0) = false := decide_eq_false hu
              have e : sn T n = j + 1 := by rw [← hsk, sn_stop' hu]
              have HFN := hFIN e
              have HTT := Lib.hid ht; clear ht hFIN hsk e
              rw [hd] at HZJ
              clear hu hd
              generalize T j = u at *
              go_wp2_with fail
              refine (HZJ.out _).mono ?_
              rintro e w2 ⟨rfl, hb2⟩
              have hz2 := hb2.size
              have HT2 := Lib.hid (HTT.out.below hb2 (Nat.le_refl _))
              obtain ⟨hc2, hf2⟩ := bcell hb2; have hz2 := hb2.size; (try simp at hz2); have HB2 := Lib.hid hb2; clear hb2
              clear r0 r1 r2 r3 rf rl0 f0 f1 f2 ff fl0
              obtain ⟨f0, f1, f2, ff, fl0⟩ := cells3' HT2.out.hf
              obtain ⟨r0, r1, r2, r3, rf, rl0⟩ := cells4 HT2.out.hr
              have hb0 := HT2.out.bel
              have hlt2 := HT2.out.lt
              have hgl2 := HT2.out.hk.lt
              have HH := Lib.hid HT2.out.he
              have hkc : ((j + 1 : Nat) : Int) ≤ (cap : Int) := by omega
              clear hc2 hf2
              go_wp2_with fail
              go_region
              all_goals
                go_wp2_with fail
                refine bodyPost_ret (v := polyE (m : Int) (.slice (some ⟨g, 0, none⟩) (j + 1) cap)) (by simp [results, Tryz.results109, go_sem, r0, r1, r2, r3]) rfl ⟨g, cap, by rw [← HFN.out], by simp; omega, ?_, ?_⟩
                · rw [← HFN.out]
                  refine (show ∀ W : World, W.heap[g]? = w2.heap[g]? → Els W g (m : Int) (redR m c n) (j + 1) from fun W hW i hi => by rw [← HTE.out i (by omega)]; exact (HH.out.same hW) i (by omega)) _ ?_
                  (repeat' (first | (with_reducible rfl) | omega | (with_reducible refine (heap_setCell_other _ _ _ _ ?_).trans ?_) | (with_reducible refine (Below.heap_alloc _ _ _ ?_).trans ?_) | (with_reducible refine (drew_heap' _ _).trans ?_) | (simp; omega)))
                · (repeat' (first | (with_reducible assumption) | (with_reducible exact Below.refl _ _) | (with_reducible refine below_drewN ?_ _) | (with_reducible refine Below.drew ?_) | (with_reducible refine Below.alloc ?_ ?_ _) | (with_reducible refine Below.setCell ?_ ?_ _) | (with_reducible refine Below.trans ?_ (Below.mono (by assumption) ?_)) | (with_reducible exact Nat.le_refl _) | (with_reducible assumption) | omega | (simp; omega) | (simp; done)))
      · have hnm' : (m : Int) < (n : Int) := by omega
        have HRN : Hid (sn T m = redn m c n) := Lib.hid (by have e1 := HSN.out; rw [show min n m = m by omega] at e1; exact e1)
        have HTE : Hid (∀ j, j < m → T j = redR m c n j) := Lib.hid fun j hj => HLAST.out j (by omega)
        have HZT : Hid (∀ j w, Calls Tryz.prog 132 #[elE (m : Int) (T j)] w fun e w' => e = .returned (.bool (decide (T j = 0))) ∧ Below w.heap.size w w') := Lib.hid (by have e1 := HZ.out (n - m); rw [HGT.out] at e1; exact e1)
        have hKn : m ≤ n := by omega
        go_wp2_with fail
        go_loopw [7] (fun vk ws => ∃ k : Nat, k ≤ m ∧ vk = .int .i64 k ∧ sn T k = sn T m ∧ TR w ws (m : Int) T n cap g) (fun vk _ => (intOf vk).toNat)
        case atStart => exact ⟨m, Nat.le_refl _, rfl, rfl, HT.out⟩
        case round =>
          obtain ⟨k, hk, rfl, hsk, ht⟩ := hrel
          have hFIN : sn T m = k → Hid (k = redn m c n) := fun e => Lib.hid (by rw [← HRN.out, e])
          obtain ⟨f0, f1, f2, ff, fl0⟩ := cells3' ht.hf
          obtain ⟨r0, r1, r2, r3, rf, rl0⟩ := cells4 ht.hr
          have hgl := ht.hk.lt
          by_cases h0 : k = 0
          · subst h0
            have HFN := hFIN hsk.symm
            clear hFIN hsk
            have HTT := Lib.hid ht; clear ht
            have hb0 := HTT.out.bel
            go_wp2_with fail
            go_region
            all_goals
              go_wp2_with fail
              refine bodyPost_ret (v := polyE (m : Int) (.slice (some ⟨g, 0, none⟩) 0 cap)) (by simp [results, Tryz.results109, go_sem, r0, r1, r2, r3]) rfl ⟨g, cap, by rw [← HFN.out], by simp; omega, ?_, ?_⟩
              · rw [← HFN.out]
                exact fun i hi => by omega
              · (repeat' (first | (with_reducible assumption) | (with_reducible exact Below.refl _ _) | (with_reducible refine below_drewN ?_ _) | (with_reducible refine Below.drew ?_) | (with_reducible refine Below.alloc ?_ ?_ _) | (with_reducible refine Below.setCell ?_ ?_ _) | (with_reducible refine Below.trans ?_ (Below.mono (by assumption) ?_)) | (with_reducible exact Nat.le_refl _) | (with_reducible assumption) | omega | (simp; omega) | (simp; done)))
          · obtain ⟨j, rfl⟩ : ∃ j, k = j + 1 := ⟨k - 1, by omega⟩
            obtain ⟨c0, c1, c2, c3, c4, c5, c6⟩ := ht.he j (by omega)
            have hz : (((j + 1 : Nat) : Int) - 1) = (j : Int) := by omega
            have hpos : (0 : Int) < ((j + 1 : Nat) : Int) := by omega
            have hjn : j < n := by omega
            have HZJ := Lib.hid (HZT.out j)
            by_cases hu : T j = 0
            · have HS2 : Hid (sn T j = sn T m) := Lib.hid (by rw [← hsk, sn_go' hu])
              have hd : decide (T j = 0) = true := decide_eq_true hu
              have HTT := Lib.hid ht; clear ht hFIN hsk
              rw [hd] at HZJ
              clear hu hd
              generalize T j = u at *
              go_wp2_with fail
              refine (HZJ.out _).mono ?_
              rintro e w2 ⟨rfl, hb2⟩
              have HT2 := Lib.hid (HTT.out.below hb2 (Nat.le_refl _)); clear hb2
              go_wp2
              go_roundw
              case rel => exact ⟨j, by omega, by go_num, HS2.out, HT2.out⟩
              case measure => (simp [intOf]; try omega)
            · have hd : decide (T j = 0) = false := decide_eq_false hu
              have e : sn T m = j + 1 := by rw [← hsk, sn_stop' hu]
              have HFN := hFIN e
              have HTT := Lib.hid ht; clear ht hFIN hsk e
              rw [hd] at HZJ
              clear hu hd
              generalize T j = u at *
              go_wp2_with fail
              refine (HZJ.out _).mono ?_
              rintro e w2 ⟨rfl, hb2⟩
              have hz2 := hb2.size
              have HT2 := Lib.hid (HTT.out.below hb2 (Nat.le_refl _))
              obtain ⟨hc2, hf2⟩ := bcell hb2; have hz2 := hb2.size; (try simp at hz2); have HB2 := Lib.hid hb2; clear hb2
              clear r0 r1 r2 r3 rf rl0 f0 f1 f2 ff fl0
              obtain ⟨f0, f1, f2, ff, fl0⟩ := cells3' HT2.out.hf
              obtain ⟨r0, r1, r2, r3, rf, rl0⟩ := cells4 HT2.out.hr
              have hb0 := HT2.out.bel
              have hlt2 := HT2.out.lt
              have hgl2 := HT2.out.hk.lt
              have HH := Lib.hid HT2.out.he
              have hkc : ((j + 1 : Nat) : Int) ≤ (cap : Int) := by omega
              clear hc2 hf2
              go_wp2_with fail
              go_region
              all_goals
                go_wp2_with fail
                refine bodyPost_ret (v := polyE (m : Int) (.slice (some ⟨g, 0, none⟩) (j + 1) cap)) (by simp [results, Tryz.results109, go_sem, r0, r1, r2, r3]) rfl ⟨g, cap, by rw [← HFN.out], by simp; omega, ?_, ?_⟩
                · rw [← HFN.out]
                  refine (show ∀ W : World, W.heap[g]? = w2.heap[g]? → Els W g (m : Int) (redR m c n) (j + 1) from fun W hW i hi => by rw [← HTE.out i (by omega)]; exact (HH.out.same hW) i (by omega)) _ ?_
                  (repeat' (first | (with_reducible rfl) | omega | (with_reducible refine (heap_setCell_other _ _ _ _ ?_).trans ?_) | (with_reducible refine (Below.heap_alloc _ _ _ ?_).trans ?_) | (with_reducible refine (drew_heap' _ _).trans ?_) | (simp; omega)))
                · (repeat' (first | (with_reducible assumption) | (with_reducible exact Below.refl _ _) | (with_reducible refine below_drewN ?_ _) | (with_reducible refine Below.drew ?_) | (with_reducible refine Below.alloc ?_ ?_ _) | (with_reducible refine Below.setCell ?_ ?_ _) | (with_reducible refine Below.trans ?_ (Below.mono (by assumption) ?_)) | (with_reducible exact Nat.le_refl _) | (with_reducible assumption) | omega | (simp; omega) | (simp; done)))
theorem Sl.tell {w : World} {v : Value} {l : List Int} (h : Sl w v l) : Sl w v (fl (fun i => l.getD i 0) l.length) := by rw [← fl_of]; exact h
theorem all_el {q : Int} {l : List Int} (h : isSz q = true) (ha : l.all (inF q) = true) : ∀ i, El q (l.getD i 0) := fun i => by
  by_cases hi : i < l.length
  · have hx := List.all_eq_true.1 ha (l.getD i 0) (by rw [show l.getD i 0 = l[i] by simp [List.getD, hi]]; exact List.getElem_mem hi)
    simpa [inF, El] using hx
  · rw [show l.getD i 0 = 0 by simp [List.getD, hi]]
    exact El.zero h
set_option maxHeartbeats 1000000 in
/-- impl.poly.numbers. -/
theorem numbersE (q : Int) (v : Value) (f : Nat → Int) (n : Nat) (w : World) (h : isSz q = true) (hv : Se w v q f n) (ha : ∀ i, i < n → El q (f i)) (hl : n ≤ 1000) :
    Calls Tryz.prog 95 #[polyE q v] w fun e w' => ∃ v', e = .returned v' ∧ Row w' w.heap.size v' (fl f n) ∧ Below w.heap.size w w' := by
  have HM := Lib.hid (fun w' (hb : Below w.heap.size w w') => mappedEI q v f n w' h (hv.below hb (Nat.le_refl _)) ha hl)
  clear h hv ha
  go_enter Tryz.func95, Tryz.ntmps95
  go_wp2_with fail
  refine (HM.out _ (by (repeat' (first | (with_reducible assumption) | (with_reducible exact Below.refl _ _) | (with_reducible refine below_drewN ?_ _) | (with_reducible refine Below.drew ?_) | (with_reducible refine Below.alloc ?_ ?_ _) | (with_reducible refine Below.setCell ?_ ?_ _) | (with_reducible refine Below.trans ?_ (Below.mono (by assumption) ?_)) | (with_reducible exact Nat.le_refl _) | (with_reducible assumption) | omega | (simp; omega) | (simp; done))))).mono ?_
  rintro e w1 ⟨v1, rfl, hr, hb1⟩
  have HR := Lib.hid hr; clear hr
  have HB1 := Lib.hid hb1; clear hb1
  go_wp2
  go_ret
  have hb1 := HB1.out
  exact ⟨_, rfl, HR.out.mono (by simp), by (repeat' (first | (with_reducible assumption) | (with_reducible exact Below.refl _ _) | (with_reducible refine below_drewN ?_ _) | (with_reducible refine Below.drew ?_) | (with_reducible refine Below.alloc ?_ ?_ _) | (with_reducible refine Below.setCell ?_ ?_ _) | (with_reducible refine Below.trans ?_ (Below.mono (by assumption) ?_)) | (with_reducible exact Nat.le_refl _) | (with_reducible assumption) | omega | (simp; omega) | (simp; done)))⟩

theorem spec_ReducePoly_no1 (q : Int) (v : Value) (w : World) (h : isSz q = false) :
    Calls Tryz.prog 23 #[.int .i64 q, v] w fun e w' => e = .returned (.tuple #[.slice none 0 0, .bool false]) ∧ Below w.heap.size w w' := by
  go_enter Tryz.func23, Tryz.ntmps23
  go_wp2_with fail
  refine (fdSize_any _ _).mono ?_
  rintro e w1 ⟨rfl, hb1⟩
  rw [h]
  have HB1 := Lib.hid hb1; clear hb1
  go_wp2_with fail
  go_ret2
  exact ⟨rfl, HB1.out⟩
theorem spec_ReducePoly_no2 (q : Int) (v : Value) (l : List Int) (w : World) (h : isSz q = true) (hv : Sl w v l) (hl : ¬ l.length ≤ 40) :
    Calls Tryz.prog 23 #[.int .i64 q, v] w fun e w' => e = .returned (.tuple #[.slice none 0 0, .bool false]) ∧ Below w.heap.size w w' := by
  obtain ⟨a, cap, rfl⟩ := hv.form
  have hn : (40 : Int) < (l.length : Int) := by omega
  clear hv hl
  generalize l.length = n at *
  have HS := Lib.hid h; clear h
  go_enter Tryz.func23, Tryz.ntmps23
  go_wp2_with fail
  refine (fdSize_any _ _).mono ?_
  rintro e w1 ⟨rfl, hb1⟩
  rw [HS.out]
  have HB1 := Lib.hid hb1; clear hb1
  go_wp2_with fail
  go_ret2
  exact ⟨rfl, HB1.out⟩
theorem spec_ReducePoly_no3 (q : Int) (v : Value) (l : List Int) (w : World) (h : isSz q = true) (hv : Sl w v l) (hl : l.length ≤ 40) (ha : l.all (inF q) = false) :
    Calls Tryz.prog 23 #[.int .i64 q, v] w fun e w' => e = .returned (.tuple #[.slice none 0 0, .bool false]) ∧ Below w.heap.size w w' := by
  have hq := isSz_le q h
  have HL := Lib.hid (fun w' (hb : Below w.heap.size w w') => by have := l1All_any v l 0 (q - 1) w' (hv.below hb (Nat.le_refl _)) (by omega); rw [all_inF, ha] at this; exact this)
  obtain ⟨a, cap, rfl⟩ := hv.form
  have hn : ¬ (40 : Int) < (l.length : Int) := by omega
  clear hv ha
  generalize l.length = n at *
  have HS := Lib.hid h; clear h
  go_enter Tryz.func23, Tryz.ntmps23
  go_wp2_with fail
  refine (fdSize_any _ _).mono ?_
  rintro e w1 ⟨rfl, hb1⟩
  rw [HS.out]
  have HB1 := Lib.hid hb1; clear hb1
  go_wp2_with fail
  refine (HL.out _ HB1.out).mono ?_
  rintro e w2 ⟨rfl, rfl⟩
  go_wp2
  go_ret2
  exact ⟨rfl, HB1.out⟩
theorem impl_ReducePoly_no1 (q : Int) (v : Value) (w : World) (h : isSz q = false) :
    Calls Tryz.prog 22 #[.int .i64 q, v] w fun e w' => e = .returned (.tuple #[.slice none 0 0, .bool false]) ∧ Below w.heap.size w w' := by
  have HF := Lib.hid (fun w => fieldOf_no q w h)
  clear h
  go_enter Tryz.func22, Tryz.ntmps22
  go_wp2_with fail
  refine (HF.out _).mono ?_
  rintro e w1 ⟨rfl, hb1⟩
  have hz_hb1 := hb1.size; (try simp at hz_hb1)
  have HB1 := Lib.hid hb1; clear hb1
  go_wp2_with fail
  go_ret2
  have hb1 := HB1.out
  exact ⟨rfl, by (repeat' (first | (with_reducible assumption) | (with_reducible exact Below.refl _ _) | (with_reducible refine below_drewN ?_ _) | (with_reducible refine Below.drew ?_) | (with_reducible refine Below.alloc ?_ ?_ _) | (with_reducible refine Below.setCell ?_ ?_ _) | (with_reducible refine Below.trans ?_ (Below.mono (by assumption) ?_)) | (with_reducible exact Nat.le_refl _) | (with_reducible assumption) | omega | (simp; omega) | (simp; done)))⟩
theorem impl_ReducePoly_no2 (q : Int) (v : Value) (l : List Int) (w : World) (h : isSz q = true) (hv : Sl w v l) (hl : ¬ l.length ≤ 40) :
    Calls Tryz.prog 22 #[.int .i64 q, v] w fun e w' => e = .returned (.tuple #[.slice none 0 0, .bool false]) ∧ Below w.heap.size w w' := by
  have HF := Lib.hid (fun w => fieldOf_yes q w h)
  obtain ⟨a, cap, rfl⟩ := hv.form
  have hn : (40 : Int) < (l.length : Int) := by omega
  clear hv hl h
  generalize l.length = n at *
  go_enter Tryz.func22, Tryz.ntmps22
  go_wp2_with fail
  refine (HF.out _).mono ?_
  rintro e w1 ⟨rfl, hb1⟩
  have hz_hb1 := hb1.size; (try simp at hz_hb1)
  have HB1 := Lib.hid hb1; clear hb1
  go_wp2_with fail
  go_ret2
  have hb1 := HB1.out
  exact ⟨rfl, by (repeat' (first | (with_reducible assumption) | (with_reducible exact Below.refl _ _) | (with_reducible refine below_drewN ?_ _) | (with_reducible refine Below.drew ?_) | (with_reducible refine Below.alloc ?_ ?_ _) | (with_reducible refine Below.setCell ?_ ?_ _) | (with_reducible refine Below.trans ?_ (Below.mono (by assumption) ?_)) | (with_reducible exact Nat.le_refl _) | (with_reducible assumption) | omega | (simp; omega) | (simp; done)))⟩
theorem impl_ReducePoly_no3 (q : Int) (v : Value) (l : List Int) (w : World) (h : isSz q = true) (hv : Sl w v l) (hl : l.length ≤ 40) (ha : l.all (inF q) = false) :
    Calls Tryz.prog 22 #[.int .i64 q, v] w fun e w' => e = .returned (.tuple #[.slice none 0 0, .bool false]) ∧ Below w.heap.size w w' := by
  have HF := Lib.hid (fun w => fieldOf_yes q w h)
  have HL := Lib.hid (fun w' (hb : Below w.heap.size w w') => by have := hasAll_any q v l w' (hv.below hb (Nat.le_refl _)) (by omega); rw [ha] at this; exact this)
  obtain ⟨a, cap, rfl⟩ := hv.form
  have hn : ¬ (40 : Int) < (l.length : Int) := by omega
  clear hv ha h
  generalize l.length = n at *
  go_enter Tryz.func22, Tryz.ntmps22
  go_wp2_with fail
  refine (HF.out _).mono ?_
  rintro e w1 ⟨rfl, hb1⟩
  have hz_hb1 := hb1.size; (try simp at hz_hb1)
  have HB1 := Lib.hid hb1; clear hb1
  go_wp2_with fail
  refine (HL.out _ (by have hb1 := HB1.out; (repeat' (first | (with_reducible assumption) | (with_reducible exact Below.refl _ _) | (with_reducible refine below_drewN ?_ _) | (with_reducible refine Below.drew ?_) | (with_reducible refine Below.alloc ?_ ?_ _) | (with_reducible refine Below.setCell ?_ ?_ _) | (with_reducible refine Below.trans ?_ (Below.mono (by assumption) ?_)) | (with_reducible exact Nat.le_refl _) | (with_reducible assumption) | omega | (simp; omega) | (simp; done))))).mono ?_
  rintro e w2 ⟨rfl, hb2⟩
  have hz_hb2 := hb2.size; (try simp at hz_hb2)
  have HB2 := Lib.hid hb2; clear hb2
  go_wp2_with fail
  go_ret2
  have hb1 := HB1.out
  have hb2 := HB2.out
  exact ⟨rfl, by (repeat' (first | (with_reducible assumption) | (with_reducible exact Below.refl _ _) | (with_reducible refine below_drewN ?_ _) | (with_reducible refine Below.drew ?_) | (with_reducible refine Below.alloc ?_ ?_ _) | (with_reducible refine Below.setCell ?_ ?_ _) | (with_reducible refine Below.trans ?_ (Below.mono (by assumption) ?_)) | (with_reducible exact Nat.le_refl _) | (with_reducible assumption) | omega | (simp; omega) | (simp; done)))⟩

set_option maxHeartbeats 1000000 in
theorem spec_ReducePoly_yes (m : Nat) (v : Value) (l : List Int) (w : World) (h : isSz (m : Int) = true) (hv : Sl w v l) (hl : l.length ≤ 40) (ha : l.all (inF (m : Int)) = true) :
    Calls Tryz.prog 23 #[.int .i64 m, v] w fun e w' => ∃ v', e = .returned (.tuple #[v', .bool true]) ∧ Row w' w.heap.size v' (fl (redR m (fun i => l.getD i 0) l.length) (redn m (fun i => l.getD i 0) l.length)) ∧ Below w.heap.size w w' := by
  have hq := isSz_le (m : Int) h
  have HL := Lib.hid (fun w' (hb : Below w.heap.size w w') => by have := l1All_any v l 0 ((m : Int) - 1) w' (hv.below hb (Nat.le_refl _)) (by omega); rw [all_inF, ha] at this; exact this)
  have HR := Lib.hid (fun w' (hb : Below w.heap.size w w') => plReduce_any m v (fun i => l.getD i 0) l.length w' h (hv.below hb (Nat.le_refl _)).tell (all_el h ha) (by omega))
  obtain ⟨a, cap, rfl⟩ := hv.form
  have hn : ¬ (40 : Int) < (l.length : Int) := by omega
  clear hv ha
  generalize (fun i => l.getD i 0) = c at *
  generalize l.length = n at *
  have HS := Lib.hid h; clear h
  go_enter Tryz.func23, Tryz.ntmps23
  go_wp2_with fail
  refine (fdSize_any _ _).mono ?_
  rintro e w1 ⟨rfl, hb1⟩
  rw [HS.out]
  have hz_hb1 := hb1.size; (try simp at hz_hb1)
  have HB1 := Lib.hid hb1; clear hb1
  go_wp2_with fail
  refine (HL.out _ HB1.out).mono ?_
  rintro e w2 ⟨rfl, rfl⟩
  go_wp2_with fail
  refine (HR.out _ HB1.out).mono ?_
  rintro e w3 ⟨v3, rfl, hr3, hb3⟩
  have HR3 := Lib.hid hr3; clear hr3
  have HB3 := Lib.hid hb3; clear hb3
  go_wp2
  go_ret2
  exact ⟨_, rfl, HR3.out.mono hz_hb1, HB1.out.trans (HB3.out.mono hz_hb1)⟩
set_option maxHeartbeats 2000000 in
theorem impl_ReducePoly_yes (m : Nat) (v : Value) (l : List Int) (w : World) (h : isSz (m : Int) = true) (hv : Sl w v l) (hl : l.length ≤ 40) (ha : l.all (inF (m : Int)) = true) :
    Calls Tryz.prog 22 #[.int .i64 m, v] w fun e w' => ∃ v', e = .returned (.tuple #[v', .bool true]) ∧ Row w' w.heap.size v' (fl (redR m (fun i => l.getD i 0) l.length) (redn m (fun i => l.getD i 0) l.length)) ∧ Below w.heap.size w w' := by
  have hq := isSz_le (m : Int) h
  have HF := Lib.hid (fun w => fieldOf_yes (m : Int) w h)
  have HL := Lib.hid (fun w' (hb : Below w.heap.size w w') => by have := hasAll_any (m : Int) v l w' (hv.below hb (Nat.le_refl _)) (by omega); rw [ha] at this; exact this)
  have HM := Lib.hid (fun w' (hb : Below w.heap.size w w') => mappedIE (m : Int) v l w' h (hv.below hb (Nat.le_refl _)) ha (by omega))
  have HRD := Lib.hid (fun v w' (hs : Se w' v (m : Int) (fun i => l.getD i 0) l.length) => reducedE m v (fun i => l.getD i 0) l.length w' h hs (all_el h ha) (by omega))
  have HK : Hid (redn m (fun i => l.getD i 0) l.length ≤ m) := Lib.hid (sn_le _ _)
  have HN := Lib.hid (fun v w' (hs : Se w' v (m : Int) (redR m (fun i => l.getD i 0) l.length) (redn m (fun i => l.getD i 0) l.length)) => numbersE (m : Int) v _ _ w' h hs (fun i _ => redR_el m _ h (all_el h ha) _ _) (by have := HK.out; omega))
  obtain ⟨a, cap, rfl⟩ := hv.form
  have hn : ¬ (40 : Int) < (l.length : Int) := by omega
  clear hv ha h
  generalize redR m (fun i => l.getD i 0) l.length = R at *
  generalize redn m (fun i => l.getD i 0) l.length = k at *
  generalize (fun i => l.getD i 0) = c at *
  generalize l.length = n at *
  go_enter Tryz.func22, Tryz.ntmps22
  go_wp2_with fail
  refine (HF.out _).mono ?_
  rintro e w1 ⟨rfl, hb1⟩
  obtain ⟨hc1, hf1⟩ := bcell hb1; have hz1 := hb1.size; (try simp at hz1); have HB1 := Lib.hid hb1; clear hb1
  have hb1 := HB1.out
  have hbw1 : Below w.heap.size w (w1.alloc (.cells #[.int .i64 (m : Int), .int .i64 (pr (m : Int)), .int .i64 (pl (m : Int))] 57)) := by (repeat' (first | (with_reducible assumption) | (with_reducible exact Below.refl _ _) | (with_reducible refine below_drewN ?_ _) | (with_reducible refine Below.drew ?_) | (with_reducible refine Below.alloc ?_ ?_ _) | (with_reducible refine Below.setCell ?_ ?_ _) | (with_reducible refine Below.trans ?_ (Below.mono (by assumption) ?_)) | (with_reducible exact Nat.le_refl _) | (with_reducible assumption) | omega | (simp; omega) | (simp; done)))
  clear hb1
  go_wp2_with fail
  refine (HL.out _ (by (repeat' (first | (with_reducible assumption) | (with_reducible exact Below.refl _ _) | (with_reducible refine below_drewN ?_ _) | (with_reducible refine Below.drew ?_) | (with_reducible refine Below.alloc ?_ ?_ _) | (with_reducible refine Below.setCell ?_ ?_ _) | (with_reducible refine Below.trans ?_ (Below.mono (by assumption) ?_)) | (with_reducible exact Nat.le_refl _) | (with_reducible assumption) | omega | (simp; omega) | (simp; done))))).mono ?_
  rintro e w2 ⟨rfl, hb2⟩
  have hbw2 : Below w.heap.size w w2 := hbw1.trans (hb2.mono hbw1.size)
  clear hbw1
  obtain ⟨hc2, hf2⟩ := bcell hb2; have hz2 := hb2.size; (try simp at hz2); have HB2 := Lib.hid hb2; clear hb2
  have l2 : w1.heap.size < w2.heap.size := by omega
  go_wp2_with fail
  go_region_with (first | (go_at_call 93; refine (HM.out _ (by (repeat' (first | (with_reducible assumption) | (with_reducible exact Below.refl _ _) | (with_reducible refine below_drewN ?_ _) | (with_reducible refine Below.drew ?_) | (with_reducible refine Below.alloc ?_ ?_ _) | (with_reducible refine Below.setCell ?_ ?_ _) | (with_reducible refine Below.trans ?_ (Below.mono (by assumption) ?_)) | (with_reducible exact Nat.le_refl _) | (with_reducible assumption) | omega | (simp; omega) | (simp; done))))).mono ?_; rintro e w3 ⟨g3, rfl, hg3, hk3, he3, hb3⟩; have hgl3 := hk3.lt; have HSE3 : Hid (Se w3 (.slice (some ⟨g3, 0, none⟩) n n) (m : Int) c n) := Lib.hid ⟨g3, _, rfl, hk3.lt, he3⟩; clear hk3 he3; obtain ⟨hc3, hf3⟩ := bcell hb3; (try simp only [World.size_drew] at hc3 hf3); have hz3 := hb3.size; (try simp at hz3); have HB3 := Lib.hid hb3; clear hb3; have l3 : w1.heap.size < w3.heap.size := (by omega)) | (go_at_call 109; refine (HRD.out _ _ HSE3.out).mono ?_; rintro e w4 ⟨g4, cp4, rfl, hg4, he4, hb4⟩; have HSE4 : Hid (Se w4 (.slice (some ⟨g4, 0, none⟩) k cp4) (m : Int) R k) := Lib.hid ⟨g4, _, rfl, hg4, he4⟩; clear he4; obtain ⟨hc4, hf4⟩ := bcell hb4; (try simp only [World.size_drew] at hc4 hf4); have hz4 := hb4.size; (try simp at hz4); have HB4 := Lib.hid hb4; clear hb4; have l4 : w1.heap.size < w4.heap.size := (by omega)) | (go_at_call 95; refine (HN.out _ _ HSE4.out).mono ?_; rintro e w5 ⟨v5, rfl, hr5, hb5⟩; have HR5 := Lib.hid hr5; clear hr5; obtain ⟨hc5, hf5⟩ := bcell hb5; (try simp only [World.size_drew] at hc5 hf5); have hz5 := hb5.size; (try simp at hz5); have HB5 := Lib.hid hb5; clear hb5))
  all_goals
    go_wp2
    go_ret2
    have hb3 := HB3.out
    have hb4 := HB4.out
    have hb5 := HB5.out
    have hz0 := hbw2.size
    exact ⟨_, rfl, HR5.out.mono (by omega), by (repeat' (first | (with_reducible assumption) | (with_reducible exact Below.refl _ _) | (with_reducible refine below_drewN ?_ _) | (with_reducible refine Below.drew ?_) | (with_reducible refine Below.alloc ?_ ?_ _) | (with_reducible refine Below.setCell ?_ ?_ _) | (with_reducible refine Below.trans ?_ (Below.mono (by assumption) ?_)) | (with_reducible exact Nat.le_refl _) | (with_reducible assumption) | omega | (simp; omega) | (simp; done)))⟩

theorem key_ReducePoly (q : Int) (l_t : List Int) (_b_t : l_t.length ≤ 1048576) : ∃ (r : List Int) (o : Bool), r.length ≤ 1048576 ∧ (∀ (w : World) (v_t : Value) (_ : Sl w v_t l_t), Calls Tryz.prog 23 #[.int .i64 q, v_t] w fun e w' => ∃ v, e = .returned (.tuple #[v, .bool o]) ∧ Row w' w.heap.size v r ∧ Below w.heap.size w w') ∧
      (∀ (w : World) (v_t : Value) (_ : Sl w v_t l_t), Calls Tryz.prog 22 #[.int .i64 q, v_t] w fun e w' => ∃ v, e = .returned (.tuple #[v, .bool o]) ∧ Row w' w.heap.size v r ∧ Below w.heap.size w w') := by
  cases h : isSz q with
  | false => exact ⟨[], false, by simp, fun w v hv => (spec_ReducePoly_no1 q v w h).mono fun _ _ ⟨he, hb⟩ => ⟨_, he, Row.nil _ _, hb⟩, fun w v hv => (impl_ReducePoly_no1 q v w h).mono fun _ _ ⟨he, hb⟩ => ⟨_, he, Row.nil _ _, hb⟩⟩
  | true =>
    by_cases hl : l_t.length ≤ 40
    · cases ha : l_t.all (inF q) with
      | false => exact ⟨[], false, by simp, fun w v hv => (spec_ReducePoly_no3 q v l_t w h hv hl ha).mono fun _ _ ⟨he, hb⟩ => ⟨_, he, Row.nil _ _, hb⟩, fun w v hv => (impl_ReducePoly_no3 q v l_t w h hv hl ha).mono fun _ _ ⟨he, hb⟩ => ⟨_, he, Row.nil _ _, hb⟩⟩
      | true =>
        have hq := isSz_le q h
        obtain ⟨m, rfl⟩ := Int.eq_ofNat_of_zero_le (show 0 ≤ q by omega)
        exact ⟨_, true, by rw [fl_len]; have : redn m (fun i => l_t.getD i 0) l_t.length ≤ m := sn_le _ _; omega, fun w v hv => spec_ReducePoly_yes m v l_t w h hv hl ha, fun w v hv => impl_ReducePoly_yes m v l_t w h hv hl ha⟩
    · exact ⟨[], false, by simp, fun w v hv => (spec_ReducePoly_no2 q v l_t w h hv hl).mono fun _ _ ⟨he, hb⟩ => ⟨_, he, Row.nil _ _, hb⟩, fun w v hv => (impl_ReducePoly_no2 q v l_t w h hv hl).mono fun _ _ ⟨he, hb⟩ => ⟨_, he, Row.nil _ _, hb⟩⟩
end Go.Proofs.YtljijnanmpajaaaGreat
