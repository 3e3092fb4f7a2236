/- A bundle of texts: HQ HW HZ HR HS. -/
import Derived.Laws.CopyOwn
import Derived.Laws.Bits64b
import Derived.Test.YtapglncgicfjnaaKH
import Derived.Test.YtapglncgicfjnaaKI
import Derived.Test.YtapglncgicfjnaaKJ
import Derived.Test.YtapglncgicfjnaaKG
namespace Go.Proofs.Ytapglncgicfjnaa
open Go.RowKit
/-- The cells of one element, of the first n. -/
def el7 (q a : Int) : List Value := [.int .i64 q, .int .i64 (pr q), .int .i64 (pl q), .int .i64 (dg q a 0), .int .i64 (dg q a 1), .int .i64 (dg q a 2), .int .i64 (dg q a 3)]
def elc (q : Int) (f : Nat → Int) : Nat → List Value
  | 0 => []
  | n + 1 => elc q f n ++ el7 q (f n)
theorem elc_len (q : Int) (f : Nat → Int) (n : Nat) : (elc q f n).length = n * 7 := by
  induction n with
  | zero => rfl
  | succ n ih => simp only [elc, List.length_append, ih, el7, List.length_cons, List.length_nil]; omega
theorem elc_get (q : Int) (f : Nat → Int) (n j b : Nat) (hj : j < n) (hb : b < 7) : (elc q f n)[j * 7 + b]? = (el7 q (f j))[b]? := by
  induction n with
  | zero => omega
  | succ n ih =>
    simp only [elc]
    by_cases h : j < n
    · rw [List.getElem?_append_left (by rw [elc_len]; omega)]
      exact ih h
    · obtain rfl : j = n := by omega
      rw [List.getElem?_append_right (by rw [elc_len]; omega), elc_len]
      congr 1
      omega
theorem elc_one (q : Int) (f : Nat → Int) (n : Nat) : ∀ u ∈ elc q f n, u.oneCell' = true := by
  induction n with
  | zero => intro u hu; simp [elc] at hu
  | succ n ih =>
    intro u hu
    simp only [elc, List.mem_append] at hu
    rcases hu with hu | hu
    · exact ih u hu
    · simp only [el7, List.mem_cons, List.not_mem_nil, or_false] at hu
      rcases hu with rfl | rfl | rfl | rfl | rfl | rfl | rfl <;> rfl
theorem elc_cells {w : World} {g n : Nat} {q : Int} {f : Nat → Int} (h : Els w g q f n) : ∀ j u, (elc q f n)[j]? = some u → w.cell? ((⟨g, 0, none⟩ : Addr).add j) = some u := by
  intro j u hj
  have hl := (List.getElem?_eq_some_iff.1 hj).1
  rw [elc_len] at hl
  have e : j = (j / 7) * 7 + j % 7 := by omega
  have h7 : j % 7 < 7 := Nat.mod_lt _ (by omega)
  have hjn : j / 7 < n := by omega
  rw [add_off, Nat.zero_add]
  rw [e, elc_get q f n _ _ hjn h7] at hj
  rw [e]
  generalize j / 7 = a at *
  generalize j % 7 = b at *
  obtain ⟨c0, c1, c2, c3, c4, c5, c6⟩ := h a hjn
  have hb : b = 0 ∨ b = 1 ∨ b = 2 ∨ b = 3 ∨ b = 4 ∨ b = 5 ∨ b = 6 := by omega
  rcases hb with rfl | rfl | rfl | rfl | rfl | rfl | rfl
  · simp [el7] at hj; subst hj; exact c0
  · simp [el7] at hj; subst hj; exact c1
  · simp [el7] at hj; subst hj; exact c2
  · simp [el7] at hj; subst hj; exact c3
  · simp [el7] at hj; subst hj; exact c4
  · simp [el7] at hj; subst hj; exact c5
  · simp [el7] at hj; subst hj; exact c6
/-- A row of elements of the call's own. -/
theorem els_of_owns {w : World} {B n g cap : Nat} {q : Int} {f : Nat → Int} (h : w.ownsRow B 87 7 (.slice (some ⟨g, 0, none⟩) n cap) n (elc q f n)) : Els w g q f n := fun j hj => by
  have hc : ∀ b, b < 7 → w.cell? ⟨g, j * 7 + b, none⟩ = (el7 q (f j))[b]? := fun b hb => by
    rw [World.ownsRow.cellAt h (j * 7 + b) (by omega), elc_get q f n j b hj hb]
  exact ⟨hc 0 (by omega), hc 1 (by omega), hc 2 (by omega), hc 3 (by omega), hc 4 (by omega), hc 5 (by omega), hc 6 (by omega)⟩
theorem run_copy_many {P : Program} (w : World) (dT sT ty elem : TypeId) (sz : Nat) (g off dLen dCap : Nat) (ad : Addr) (sLen sCap : Nat) (cur : Array Value) (t : TypeId) (cs : List Value)
    (hu : P.underlying dT = some (.slice elem)) (hs : (P.info? elem).map (·.size) = some sz) (hg : w.heap[g]? = some (.cells cur t (0, 0))) (hn : cs.length = Nat.min sLen dLen * sz)
    (hsrc : ∀ j v, cs[j]? = some v → w.cell? (ad.add j) = some v) (hfit : off + cs.length ≤ cur.size) (h1 : ∀ v ∈ cs, v.oneCell' = true) :
    (Builtin.copy_ #[dT, sT] ty #[.slice (some ⟨g, off, none⟩) dLen dCap, .slice (some ad) sLen sCap]).run P w = .ok (goInt (Nat.min sLen dLen)) (w.setRow g (cur.toList.take off ++ (cs ++ cur.toList.drop (off + cs.length))).toArray) := by
  have hl := run_loadCells_list (P := P) w ad cs hsrc
  have hst := run_storeCells_at P g off t cs 0 cur w hg (by simpa using hfit) h1
  cases hq : P.info? elem with
  | none => simp [hq] at hs
  | some i =>
    have hi : i.size = sz := by simpa [hq] using hs
    simp [Builtin.copy_, run_underlying hu, Builtin.lenOf, Builtin.firstCells, sizeOf, typeInfo, hq, hi, ← hn, hl, hst]
theorem run_copy_many_none {P : Program} (w : World) (dT sT ty elem : TypeId) (sz : Nat) (d a : Option Addr) (dLen dCap sLen sCap : Nat) (hu : P.underlying dT = some (.slice elem)) (hs : (P.info? elem).map (·.size) = some sz) (hn : Nat.min sLen dLen = 0) :
    (Builtin.copy_ #[dT, sT] ty #[.slice d dLen dCap, .slice a sLen sCap]).run P w = .ok (goInt 0) w := by
  cases hq : P.info? elem with
  | none => simp [hq] at hs
  | some i =>
    have hl : ∀ (x : Addr), (loadCells x 0).run P w = .ok #[] w := fun x => by simpa using run_loadCells_list (P := P) w x [] (by simp)
    cases d <;> cases a <;> simp [Builtin.copy_, run_underlying hu, Builtin.lenOf, Builtin.firstCells, sizeOf, typeInfo, hq, hn, storeCells, hl]
theorem wpList_copy_many {P : Program} {w : World} {ops : Array Oper} {rest : List Oper} {o : Oper} {a : Act} {Q : Exit → Act → World → Prop} (hgd : o.guard = none) (d s : Operand) (dT sT : TypeId)
    (ho : o.op = .call { callee := .builtin .copy, args := #[d, s], argTypes := #[dT, sT] }) (elem : TypeId) (sz : Nat) (hu : P.underlying dT = some (.slice elem)) (hsz : (P.info? elem).map (·.size) = some sz)
    (dp sp : Option Addr) (dLen dCap sLen sCap : Nat) (hd : a.eval d = .slice dp dLen dCap) (hs : a.eval s = .slice sp sLen sCap)
    (g off : Nat) (cur : List Value) (t : TypeId) (hg : w.heap[g]? = some (.cells cur.toArray t (0, 0))) (cs : List Value) (hn : cs.length = Nat.min sLen dLen * sz)
    (hpos : 0 < Nat.min sLen dLen → dp = some ⟨g, off, none⟩ ∧ ∃ ad, sp = some ad ∧ ∀ j v, cs[j]? = some v → w.cell? (ad.add j) = some v)
    (hfit : off + cs.length ≤ cur.length) (h1 : ∀ v ∈ cs, v.oneCell' = true) (B : Nat) (w0 : World) (hb : Below B w0 w) (hBg : B ≤ g)
    (h : ∀ w', Hid (w'.heap[g]? = some (.cells (splice cur off cs).toArray t (0, 0))) → Below B w0 w' → wpList P ops Q rest (a.put o.dst (goInt (Nat.min sLen dLen))) w') :
    wpList P ops Q (o :: rest) a w := by
  by_cases h0 : Nat.min sLen dLen = 0
  · have hc : cs.length = 0 := by rw [hn, h0, Nat.zero_mul]
    obtain rfl : cs = [] := List.eq_nil_of_length_eq_zero hc
    refine wpList_plain hgd fun K hK => ?_
    have hrun := run_copy_many_none (P := P) w dT sT o.type elem sz dp sp dLen dCap sLen sCap hu hsz h0
    unfold Oper.wp
    simp [execOp, ho, resolve, invoke, builtin, hd, hs, hrun, Result.andThen]
    rw [h0] at h
    exact hK _ _ (h w (show _ = _ by simpa [splice] using hg) hb)
  · obtain ⟨rfl, ad, rfl, hsrc⟩ := hpos (by omega)
    refine wpList_plain hgd fun K hK => ?_
    have hrun := run_copy_many (P := P) w dT sT o.type elem sz g off dLen dCap ad sLen sCap cur.toArray t cs hu hsz hg hn hsrc (by simpa using hfit) h1
    unfold Oper.wp
    simp [execOp, ho, resolve, invoke, builtin, hd, hs, hrun, Result.andThen]
    exact hK _ _ (h _ (show _ = _ by simpa [splice] using setRow_heap w g _ _ t _ hg) (below_setRow hb hBg _))
/-- The same as a step of a region that draws its order. -/
theorem step_copy_many {P : Program} {ops : Array Oper} {o : Oper} {a : Act} {w : World} {K : Act → World → Prop} {Q : Exit → Act → World → Prop} {E : Prop} (hgd : o.guard = none) (d s : Operand) (dT sT : TypeId)
    (ho : o.op = .call { callee := .builtin .copy, args := #[d, s], argTypes := #[dT, sT] }) (elem : TypeId) (sz : Nat) (hu : P.underlying dT = some (.slice elem)) (hsz : (P.info? elem).map (·.size) = some sz)
    (sLen sCap dLen dCap g off : Nat) (ad : Addr) (hd : a.eval d = .slice (some ⟨g, off, none⟩) dLen dCap) (hs : a.eval s = .slice (some ad) sLen sCap)
    (cur : List Value) (t : TypeId) (hg : w.heap[g]? = some (.cells cur.toArray t (0, 0))) (cs : List Value) (hn : cs.length = Nat.min sLen dLen * sz)
    (hsrc : ∀ j v, cs[j]? = some v → w.cell? (ad.add j) = some v) (hfit : off + cs.length ≤ cur.length) (h1 : ∀ v ∈ cs, v.oneCell' = true) (B : Nat) (w0 : World) (hb : Below B w0 w) (hBg : B ≤ g)
    (h : ∀ w', Hid (w'.heap[g]? = some (.cells (splice cur off cs).toArray t (0, 0))) → Below B w0 w' → K (a.put o.dst (goInt (Nat.min sLen dLen))) w') :
    if Region.wanted o (yielded ops a.tmps) = true then Oper.wp P o a w K Q else E := by
  have hw : Region.wanted o (yielded ops a.tmps) = true := by simp [Region.wanted, hgd]
  rw [if_pos hw]
  have hrun := run_copy_many (P := P) w dT sT o.type elem sz g off dLen dCap ad sLen sCap cur.toArray t cs hu hsz hg hn hsrc (by simpa using hfit) h1
  unfold Oper.wp
  simp [execOp, ho, resolve, invoke, builtin, hd, hs, hrun, Result.andThen]
  exact h _ (show _ = _ by simpa [splice] using setRow_heap w g _ _ t _ hg) (below_setRow hb hBg _)
theorem mask_small (n : Nat) (h : n < 4294967296) : bits .and .u64 (n : Int) 4294967295 = (n : Int) := by
  have h1 := bits_and_u64_nat n 4294967295 (by omega) (by omega)
  have e : n &&& 4294967295 = n % 4294967296 := Nat.and_two_pow_sub_one_eq_mod n 32
  rw [e, Nat.mod_eq_of_lt h] at h1
  exact h1
theorem elc_add (q x : Int) (r c : Nat) : elc q (fun _ => x) r ++ elc q (fun _ => x) c = elc q (fun _ => x) (r + c) := by
  induction c with
  | zero => simp [elc]
  | succ c ih => rw [← Nat.add_assoc]; simp only [elc]; rw [← List.append_assoc, ih]
theorem elc_pre (q x : Int) (r c : Nat) (h : c ≤ r) (j : Nat) (v : Value) (hj : (elc q (fun _ => x) c)[j]? = some v) : (elc q (fun _ => x) r)[j]? = some v := by
  obtain ⟨d, rfl⟩ : ∃ d, r = c + d := ⟨r - c, by omega⟩
  rw [← elc_add, List.getElem?_append_left (List.getElem?_eq_some_iff.1 hj).1, hj]
/-- A block of N elements whose first r are x. -/
def ZR (w : World) (g N : Nat) (q x : Int) (r : Nat) : Prop := ∃ cur : List Value, w.heap[g]? = some (.cells cur.toArray 87 (0, 0)) ∧ cur.length = N * 7 ∧ cur.take (r * 7) = elc q (fun _ => x) r
theorem ZR.next {w' : World} {g N : Nat} {q x : Int} {r c : Nat} {cur : List Value} (hl : cur.length = N * 7) (ht : cur.take (r * 7) = elc q (fun _ => x) r) (hc : r + c ≤ N) (h : w'.heap[g]? = some (.cells (splice cur (r * 7) (elc q (fun _ => x) c)).toArray 87 (0, 0))) : ZR w' g N q x (r + c) := by
  refine ⟨_, h, ?_, ?_⟩
  · rw [length_splice _ _ _ (by rw [elc_len]; omega), hl]
  · unfold splice
    rw [ht, ← List.append_assoc, elc_add, List.take_append_of_le_length (by rw [elc_len]; omega), List.take_of_length_le (by rw [elc_len]; omega)]
theorem ZR.cells {w : World} {g : Nat} {q x : Int} {r c : Nat} {cur : List Value} (h : w.heap[g]? = some (.cells cur.toArray 87 (0, 0))) (ht : cur.take (r * 7) = elc q (fun _ => x) r) (hc : c ≤ r) (j : Nat) (v : Value) (hj : (elc q (fun _ => x) c)[j]? = some v) : w.cell? ((⟨g, 0, none⟩ : Addr).add j) = some v := by
  have h1 := elc_pre q x r c hc j v hj
  rw [← ht] at h1
  have hl : j < r * 7 := by have := (List.getElem?_eq_some_iff.1 h1).1; rw [List.length_take] at this; omega
  rw [List.getElem?_take, if_pos hl] at h1
  rw [add_off, Nat.zero_add, cell_of_row w g j _ _ (0, 0) h]
  simpa using h1
theorem ZR.all {w : World} {g N : Nat} {q x : Int} (h : ZR w g N q x N) : Blk w g N ∧ Els w g q (fun _ => x) N := by
  obtain ⟨cur, hh, hl, ht⟩ := h
  refine ⟨⟨_, hh, by simpa using hl⟩, fun j hj => ?_⟩
  have hc : ∀ b, b < 7 → w.cell? ⟨g, j * 7 + b, none⟩ = (el7 q x)[b]? := fun b hb => by
    rw [cell_of_row w g _ _ _ (0, 0) hh]
    rw [List.take_of_length_le (by omega)] at ht
    rw [ht, ← elc_get q (fun _ => x) N j b hj hb]
    simp
  exact ⟨hc 0 (by omega), hc 1 (by omega), hc 2 (by omega), hc 3 (by omega), hc 4 (by omega), hc 5 (by omega), hc 6 (by omega)⟩
theorem els_one {w : World} {b : Nat} {q x : Int} (h : Els w b q (fun _ => x) 1) (j : Nat) (v : Value) (hj : (elc q (fun _ => x) 1)[j]? = some v) : w.cell? ((⟨b, 0, none⟩ : Addr).add j) = some v := elc_cells h j v hj
theorem made_list {w : World} {base g N : Nat} {xs : List Value} (h : w.ownsRow base 87 7 (.slice (some ⟨g, 0, none⟩) N N) N xs) : ∃ cur : List Value, w.heap[g]? = some (.cells cur.toArray 87 (0, 0)) ∧ cur.length = N * 7 := by
  rcases h.2 with ⟨hx, _⟩ | ⟨g', cap, cur, hx, _, hh, _, _, hsz, _⟩
  · simp at hx
  · simp at hx
    obtain ⟨rfl, rfl⟩ := hx
    exact ⟨cur.toList, by simpa using hh, by simpa using hsz⟩
theorem drew_heap' (w : World) (k : Nat) : w.drew.heap[k]? = w.heap[k]? := rfl
abbrev ffblk (q : Int) : Obj := .cells #[.int .i64 q, .int .i64 (pr q), .int .i64 (pl q)] 63
theorem cells3' {w : World} {b : Nat} {x0 x1 x2 : Value} (h : w.heap[b]? = some (.cells #[x0, x1, x2] 63 (0, 0))) :
    w.cell? ⟨b, 0, none⟩ = some x0 ∧ w.cell? ⟨b, 1, none⟩ = some x1 ∧ w.cell? ⟨b, 2, none⟩ = some x2 ∧ (∀ o, w.frozen? ⟨b, o, none⟩ = false) ∧ b < w.heap.size := by
  refine ⟨?_, ?_, ?_, fun o => frozen_of_row w b o _ _ h, (Array.getElem?_eq_some_iff.1 h).1⟩ <;> rw [cell_of_row w b _ _ _ (0, 0) h] <;> rfl
theorem Els.put {w : World} {g n cap i : Nat} {q : Int} {f : Nat → Int} (x : Int) (hk : Blk w g cap) (hi : i < n) (hn : n ≤ cap) (he : Els w g q f n) : Els (put7i w g i q x) g q (upd f i x) n ∧ Blk (put7i w g i q x) g cap := by
  obtain ⟨cur, hc, hs⟩ := hk
  have hh := put7i_heap w g i q x cur hc
  refine ⟨fun j hj => ?_, ⟨_, hh, by rw [arr7_size]; exact hs⟩⟩
  have hin := arr7_in cur i q x (by omega)
  simp only [cell_of_row _ g _ _ _ (0, 0) hh]
  by_cases e : j = i
  · subst e
    rw [upd_at]
    exact hin
  · have := he j hj
    simp only [cell_of_row _ g _ _ _ (0, 0) hc] at this
    rw [upd_ne _ _ _ _ e, arr7_out _ _ _ _ _ (by omega), arr7_out _ _ _ _ _ (by omega), arr7_out _ _ _ _ _ (by omega), arr7_out _ _ _ _ _ (by omega), arr7_out _ _ _ _ _ (by omega), arr7_out _ _ _ _ _ (by omega), arr7_out _ _ _ _ _ (by omega)]
    exact this
/-- The memory of reduced. -/
structure TR (w0 wr : World) (q : Int) (f : Nat → Int) (n cap g : Nat) : Prop where
  hf : wr.heap[w0.heap.size]? = some (ffblk q)
  hr : wr.heap[w0.heap.size + 1]? = some pzblk
  hk : Blk wr g cap
  he : Els wr g q f n
  bel : Below w0.heap.size w0 wr
  lt : w0.heap.size + 1 < g
theorem TR.below {w0 wr w' : World} {q : Int} {f : Nat → Int} {n cap g B : Nat} (h : TR w0 wr q f n cap g) (hb : Below B wr w') (hB : wr.heap.size ≤ B) : TR w0 w' q f n cap g := by
  have hg := h.hk.lt
  have hl := h.lt
  have hs := h.bel.size
  exact ⟨(hb.block _ (by omega)).trans h.hf, (hb.block _ (by omega)).trans h.hr, h.hk.below hb (by omega), h.he.below hb (by omega), h.bel.trans (hb.mono (by omega)), hl⟩
theorem TR.step {w0 wr : World} {q : Int} {f : Nat → Int} {n cap g i : Nat} (h : TR w0 wr q f n cap g) (hi : i < n) (hn : n ≤ cap) (x : Int) : TR w0 (put7i wr g i q x) q (upd f i x) n cap g := by
  have hl := h.lt
  obtain ⟨he, hk⟩ := Els.put x h.hk hi hn h.he
  exact ⟨(put7i_other _ _ _ _ _ _ (by omega)).trans h.hf, (put7i_other _ _ _ _ _ _ (by omega)).trans h.hr, hk, he, put7i_below h.bel _ (by omega) _ _ _, hl⟩
theorem sn_stop' {f : Nat → Int} {k : Nat} (h : f k ≠ 0) : sn f (k + 1) = k + 1 := by simp [sn, h]
theorem sn_go' {f : Nat → Int} {k : Nat} (h : f k = 0) : sn f (k + 1) = sn f k := by simp [sn, h]
theorem Sl.tell {w : World} {v : Value} {l : List Int} (h : Sl w v l) : Sl w v (fl (fun i => l.getD i 0) l.length) := by rw [← fl_of]; exact h
theorem all_el {q : Int} {l : List Int} (h : isSz q = true) (ha : l.all (inF q) = true) : ∀ i, El q (l.getD i 0) := fun i => by
  by_cases hi : i < l.length
  · have hx := List.all_eq_true.1 ha (l.getD i 0) (by rw [show l.getD i 0 = l[i] by simp [List.getD, hi]]; exact List.getElem_mem hi)
    simpa [inF, El] using hx
  · rw [show l.getD i 0 = 0 by simp [List.getD, hi]]
    exact El.zero h
end Go.Proofs.Ytapglncgicfjnaa
