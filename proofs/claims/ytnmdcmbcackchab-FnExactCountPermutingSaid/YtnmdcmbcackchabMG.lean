/- Normal polynomials of a degree looked for by the model: spec.peAll.try, by a contract. -/
import Derived.Test.YtnmdcmbcackchabMF
import Derived.Test.YtnmdcmbcackchabLO
import Derived.Test.YtnmdcmbcackchabKI
import Derived.Test.YtnmdcmbcackchabLV
import Derived.Deep.RegionLaw
namespace Go.Proofs.Ytnmdcmbcackchab
open Go.RowKit
/-- append to a slice of the call's own, as a step of a region that draws. -/
theorem step_append_own {P : Program} {ops : Array Oper} {o : Oper} {a : Act} {w : World} {K : Act → World → Prop} {Q : Exit → Act → World → Prop} {E : Prop}
    (hg : o.guard = none) (s x : Operand) (t : TypeId) (hop : o.op = Op.call { callee := Callee.builtin Builtin.append, args := #[s, x], argTypes := #[t, t] })
    (base : Nat) (e : TypeId) (i : TypeInfo) (z : Value) (size bytes : Nat) (h1 : P.underlying t = some (.slice e)) (h2 : P.info? e = some i) (h3 : i.zero = some z) (h4 : i.size = size) (h5 : i.bytes = bytes) (h6 : z.cells.size = size) (h7 : 0 < size)
    (v : Value) (n : Nat) (xs : List Value) (hs : a.eval s = v) (hown : w.ownsRow base e size v n xs)
    (ad : Addr) (m c : Nat) (news : List Value) (hx : a.eval x = .slice (some ad) m c) (hn : news.length = m * size) (hc : ∀ j u, news[j]? = some u → w.cell? (ad.add j) = some u) (h1c : ∀ u ∈ news, u.oneCell' = true)
    (b1 : n + m ≤ maxLen) (b2 : (n + m) * bytes ≤ 140737488355328) (hbase : base ≤ w.heap.size)
    (hK : ∀ v' w', w'.ownsRow base e size v' (n + m) (xs ++ news) → w.grownBy w' v.ownBlock → K (a.put o.dst v') w') :
    if Region.wanted o (yielded ops a.tmps) = true then Oper.wp P o a w K Q else E := by
  have hw : Region.wanted o (yielded ops a.tmps) = true := by simp [Region.wanted, hg]
  rw [if_pos hw]
  obtain ⟨v', w', hrun, r1, r2, _⟩ := run_append_own (P := P) w base t o.type e i z size bytes h1 h2 h3 h4 h5 h6 h7 v n xs hown ad m c news hn hc h1c b1 b2 hbase
  unfold Oper.wp
  simp [execOp, hop, resolve, invoke, builtin, hs, hx, hrun, Result.andThen]
  exact hK v' w' r1 r2
/-- The polynomials of a list of numbers. -/
def PF (m d : Nat) (L : List Nat) : Nat → List Int := fun i => fl (pf m d (L.getD i 0)) (d + 1)
theorem PF_app (m d : Nat) (L : List Nat) (J : Nat) : ∀ i, i < L.length + 1 → set1 (PF m d L) L.length (fl (pf m d J) (d + 1)) i = PF m d (L ++ [J]) i := fun i hi => by
  by_cases e : i = L.length
  · subst e
    rw [set1_at]
    simp [PF, List.getD]
  · rw [set1_ne _ _ _ _ e]
    simp [PF, List.getD, List.getElem?_append_left (show i < L.length by omega)]
/-- The memory, with what has been found. -/
structure TN (w0 wr : World) (W G B m d J : Nat) (vf : Value) (L : List Nat) (X : Nat → Value) : Prop where
  tz : TZ w0 wr W G m d L.length J vf
  rs : RS wr B vf L.length (PF m d L) X
  wb : W < B
  gb : G < B
  lo : w0.heap.size ≤ B
  hi : B ≤ wr.heap.size
theorem TN.below {w0 wr w' : World} {W G B m d J : Nat} {vf : Value} {L : List Nat} {X : Nat → Value} (h : TN w0 wr W G B m d J vf L X) (hb : Below wr.heap.size wr w') : TN w0 w' W G B m d J vf L X :=
  ⟨h.tz.below hb, h.rs.below hb, h.wb, h.gb, h.lo, Nat.le_trans h.hi hb.size⟩
theorem TN.put {w0 wr : World} {W G B m d J J' : Nat} {vf : Value} {L : List Nat} {X : Nat → Value} (h : TN w0 wr W G B m d J vf L X) (i : Nat) (x : Int) (e : upd (pf m d J) i x = pf m d J') : TN w0 (wr.setCell ⟨G, i, none⟩ (.int .i64 x)) W G B m d J' vf L X :=
  ⟨h.tz.put i x e, h.rs.keep (fun g hg => heap_setCell_other _ _ _ _ (by have h1 := (h.rs.lt g hg).1; have h2 := h.gb; show g ≠ G; omega)) (fun k hk g hg => heap_setCell_other _ _ _ _ (by have h1 := ((h.rs.inner k hk).lt g hg).1; have h2 := h.gb; show g ≠ G; omega)), h.wb, h.gb, h.lo, by simpa using h.hi⟩
/-- One more is found. -/
theorem TN.found {w0 w1 w5 w7 : World} {W G B m d J : Nat} {vf v' u : Value} {L : List Nat} {X : Nat → Value} {o : Obj} (h : TN w0 w1 W G B m d J vf L X)
    (hb : Below w1.heap.size (w1.setCell ⟨W, 1, none⟩ (.int .i64 (L.length + 1 : Nat))) w5) (hu : Row w5 w1.heap.size u (fl (pf m d J) (d + 1)))
    (hown : w7.ownsRow B 22 1 v' (L.length + 1) (flv X L.length ++ [u])) (hg : (w5.alloc o).grownBy w7 vf.ownBlock) :
    TN w0 (w7.setCell ⟨W, 2, none⟩ v') W G B m d J v' (L ++ [J]) (set1 X L.length u) := by
  have hl := h.tz.lts
  have hwb := h.wb
  have hgb := h.gb
  have hlo := h.tz.lo
  have hB := h.hi
  have hzb := h.tz.bel.size
  have h1 := h.tz.count (L.length + 1)
  have hr1 : RS (w1.setCell ⟨W, 1, none⟩ (.int .i64 (L.length + 1 : Nat))) B vf L.length (PF m d L) X := h.rs.keep (fun g hg => heap_setCell_other _ _ _ _ (by have h1 := (h.rs.lt g hg).1; show g ≠ W; omega)) (fun k hk g hg => heap_setCell_other _ _ _ _ (by have h1 := ((h.rs.inner k hk).lt g hg).1; show g ≠ W; omega))
  have hz1 : (w1.setCell ⟨W, 1, none⟩ (.int .i64 (L.length + 1 : Nat))).heap.size = w1.heap.size := by simp
  have hb' : Below (w1.setCell ⟨W, 1, none⟩ (.int .i64 (L.length + 1 : Nat))).heap.size (w1.setCell ⟨W, 1, none⟩ (.int .i64 (L.length + 1 : Nat))) w5 := by rw [hz1]; exact hb
  have h5 := h1.below hb'
  have hr5 := hr1.below hb'
  have h6 : TZ w0 (w5.alloc o) W G m d (L.length + 1) J vf := h5.below ((Below.refl _ _).alloc (Nat.le_refl _) o)
  have hr6 := hr5.alloc o
  have hu6 : Row (w5.alloc o) w1.heap.size u (fl (pf m d J) (d + 1)) := hu.alloc _
  have hz5 := hb'.size
  have hlt6 := h6.lts
  have nf : ∀ k, k < B → ∀ g, vf.ownBlock = some g → k ≠ g := fun k hk g hg' => by
    have := (hr6.lt g hg').1
    omega
  have hW7 : w7.heap[W]? = (w5.alloc o).heap[W]? := hg.block W hlt6.1 (fun e => nf W hwb W (by rw [e]) rfl)
  have hG7 : w7.heap[G]? = (w5.alloc o).heap[G]? := hg.block G hlt6.2.1 (fun e => nf G hgb G (by rw [e]) rfl)
  have hR := (hr6.appended hg hown (hu6.mono hB) (fun i hi g hg' e => by
    have h3 := ((h.rs.inner i hi).lt g hg').2
    have h4 := (hu6.lt g e).1
    omega)).congr (PF_app m d L J)
  refine ⟨⟨?_, ?_, ?_, hlo, h.tz.ne⟩, ?_, hwb, hgb, h.lo, ?_⟩
  · rw [List.length_append]
    exact heap_setCell_same w7 W 2 _ _ v' (hW7.trans h6.ww)
  · refine Row.keep (w := w7) (Row.keep (w' := w7) h6.ff fun g hg' => ?_) fun g hg' => ?_
    · cases hg'
      exact hG7
    · cases hg'
      exact heap_setCell_other _ _ _ _ (Ne.symm h.tz.ne)
  · exact (h6.bel.grown hg (by have := h6.bel.size; omega) (fun g e => by have := (hr6.lt g e).1; have := h.lo; omega)).setCell (p := ⟨W, 2, none⟩) hlo _
  · rw [List.length_append]
    exact hR.keep (fun g hg => heap_setCell_other _ _ _ _ (by have h1 := (hR.lt g hg).1; show g ≠ W; omega)) (fun k hk g hg => heap_setCell_other _ _ _ _ (by have h1 := ((hR.inner k hk).lt g hg).1; show g ≠ W; omega))
  · have h3 := hg.size
    simp at h3 ⊢
    simp at hz5
    omega
end Go.Proofs.Ytnmdcmbcackchab
