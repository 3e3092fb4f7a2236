/- Polynomials in memory, told by their tables; powers of x, the product with x: impl.field.powerOfX, impl.poly.timesX by contracts. -/
import Derived.Test.YtgndlpdcebmgmaaNB
import Derived.Test.YtgndlpdcebmgmaaKQ
import Derived.Test.YtgndlpdcebmgmaaKP
import Derived.Deep.RegionLaw
import Derived.Deep.RegionHeld3
namespace Go.Proofs.Ytgndlpdcebmgmaa
open Go.RowKit
/-- v holds the coefficients of the reduced polynomial with the table t. -/
def IsP (w : World) (v : Value) (m : Nat) (t : Nat → Int) : Prop := ∃ g k cap f, v = .slice (some ⟨g, 0, none⟩) k cap ∧ g < w.heap.size ∧ Els w g (m : Int) f k ∧ Tb m f k t
theorem IsP.below {w w' : World} {v : Value} {m B : Nat} {t : Nat → Int} (h : IsP w v m t) (hb : Below B w w') (hB : w.heap.size ≤ B) : IsP w' v m t := by
  obtain ⟨g, k, cap, f, rfl, hg, he, ht⟩ := h
  exact ⟨g, k, cap, f, rfl, by have := hb.size; omega, he.below hb (by omega), ht⟩
theorem IsP.like {w : World} {v : Value} {m : Nat} {t u : Nat → Int} (h : IsP w v m t) (e : ∀ a, a < m → t a = u a) : IsP w v m u := by
  obtain ⟨g, k, cap, f, hv, hg, he, ht⟩ := h
  exact ⟨g, k, cap, f, hv, hg, he, ht.like e⟩
theorem IsP.slice {w : World} {v : Value} {m : Nat} {t : Nat → Int} (h : IsP w v m t) : ∃ a k cap, v = .slice a k cap := by
  obtain ⟨g, k, cap, f, rfl, _⟩ := h
  exact ⟨_, _, _, rfl⟩
/-- append to a slice of the call's own, as a step of a region that draws. -/
theorem step_append_ownE {P : Program} {ops : Array Oper} {o : Oper} {a : Act} {w : World} {K : Act → World → Prop} {Q : Exit → Act → World → Prop} {E : Prop}
    (hg : o.guard = none) (s x : Operand) (t : TypeId) (hop : o.op = Op.call { callee := Callee.builtin Builtin.append, args := #[s, x], argTypes := #[t, t] })
    (base : Nat) (e : TypeId) (i : TypeInfo) (z : Value) (size bytes : Nat) (h1 : P.underlying t = some (.slice e)) (h2 : P.info? e = some i) (h3 : i.zero = some z) (h4 : i.size = size) (h5 : i.bytes = bytes) (h6 : z.cells.size = size) (h7 : 0 < size)
    (v : Value) (n : Nat) (xs : List Value) (hs : a.eval s = v) (hown : w.ownsRow base e size v n xs)
    (ad : Addr) (m c : Nat) (news : List Value) (hx : a.eval x = .slice (some ad) m c) (hn : news.length = m * size) (hc : ∀ j u, news[j]? = some u → w.cell? (ad.add j) = some u) (h1c : ∀ u ∈ news, u.oneCell' = true)
    (b1 : n + m ≤ maxLen) (b2 : (n + m) * bytes ≤ 140737488355328) (hbase : base ≤ w.heap.size)
    (hK : ∀ v' w', w'.ownsRow base e size v' (n + m) (xs ++ news) → w.grownBy w' v.ownBlock → K (a.put o.dst v') w') :
    if Region.wanted o (yielded ops a.tmps) = true then Oper.wp P o a w K Q else E := by
  have hw : Region.wanted o (yielded ops a.tmps) = true := by simp [Region.wanted, hg]
  rw [if_pos hw]
  obtain ⟨v', w', hrun, r1, r2, _⟩ := run_append_own (P := P) w base t o.type e i z size bytes h1 h2 h3 h4 h5 h6 h7 v n xs hown ad m c news hn hc h1c b1 b2 hbase
  unfold Oper.wp
  simp [execOp, hop, resolve, invoke, builtin, hs, hx, hrun, Result.andThen]
  exact hK v' w' r1 r2
/-- Elements in a block of their own, as a row of the call's. -/
theorem els_owns {w : World} {B g n : Nat} {q : Int} {f : Nat → Int} (hk : Blk w g n) (he : Els w g q f n) (hB : B ≤ g) (hn : n ≤ 1000) : w.ownsRow B 49 7 (.slice (some ⟨g, 0, none⟩) n n) n (elc q f n) := by
  obtain ⟨cur, hh, hsz⟩ := hk
  refine ⟨elc_len q f n, .inr ⟨g, n, cur, rfl, hB, hh, Nat.le_refl _, by unfold maxLen; omega, hsz, ?_⟩⟩
  have hl := elc_len q f n
  rw [List.take_of_length_le (by simp; omega)]
  refine List.ext_getElem? fun j => ?_
  by_cases hj : j < n * 7
  · have hc := elc_cells he j (elc q f n)[j] (List.getElem?_eq_getElem (by omega))
    rw [add_off, Nat.zero_add, cell_of_row w g j cur _ _ hh] at hc
    rw [Array.getElem?_toList, hc, List.getElem?_eq_getElem (by omega)]
  · rw [List.getElem?_eq_none (by simp; omega), List.getElem?_eq_none (by omega)]
theorem elc_congr {q : Int} {f f' : Nat → Int} {n : Nat} (h : ∀ i, i < n → f i = f' i) : elc q f n = elc q f' n := by
  induction n with
  | zero => rfl
  | succ n ih => rw [elc, elc, ih fun i hi => h i (by omega), h n (by omega)]
theorem elc_app (q : Int) (f : Nat → Int) (n k : Nat) : elc q f (n + k) = elc q f n ++ elc q (fun i => f (n + i)) k := by
  induction k with
  | zero => simp [elc]
  | succ k ih => rw [show n + (k + 1) = n + k + 1 by omega, elc, elc, ih, List.append_assoc]
theorem blk_news {w : World} {b : Nat} {q a : Int} (h : w.heap[b]? = some (eblk q a)) : ∀ j u, (el7 q a)[j]? = some u → w.cell? ((⟨b, 0, none⟩ : Addr).add j) = some u := by
  intro j u hj
  rw [add_off, Nat.zero_add, cell_of_row w b j _ _ _ h, ← hj]
  simp [el7]
theorem el7_one (q a : Int) : ∀ u ∈ el7 q a, u.oneCell' = true := by
  intro u hu
  simp only [el7, List.mem_cons, List.not_mem_nil, or_false] at hu
  rcases hu with rfl | rfl | rfl | rfl | rfl | rfl | rfl <;> rfl
theorem owns_se {w : World} {B n : Nat} {v : Value} {q : Int} {f : Nat → Int} (h : w.ownsRow B 49 7 v n (elc q f n)) (hn : 0 < n) : Se w v q f n := by
  rcases h.2 with ⟨_, hx⟩ | ⟨g1, cap1, cur, hx, hB, hh, hc, _, hsz, _⟩
  · omega
  · subst hx
    exact ⟨g1, cap1, rfl, (Array.getElem?_eq_some_iff.1 hh).1, els_of_owns h⟩
end Go.Proofs.Ytgndlpdcebmgmaa
